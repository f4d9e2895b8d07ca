package millrace_test

import (
	"slices"
	"testing"

	"millrace/api"
	"millrace/millrace"
)

// withRooms: the same sources and workers, with rooms of its own.
func withRooms(d *dice, n api.Net) api.Net {
	n.Streams = slices.Clone(n.Streams)
	for s := range n.Streams {
		n.Streams[s] = 1 + d.roll(1+d.roll(api.MaxRoom))
	}
	return n
}

// act: a step of some worker, or now and then a Run, a Grow or a Flow.
func act(d *dice, r *millrace.Race, n api.Net) {
	switch d.roll(20) {
	case 0, 1, 2:
		r.Grow()
	case 3:
		r.Flow(d.roll(15))
	case 4:
		w := d.roll(len(n.Workers))
		r.Run(w, w, w, w, w)
	default:
		r.Step(d.roll(len(n.Workers)))
	}
}

// refit: the same sources and workers, with some rooms that P8 takes for a state of the race.
func refit(d *dice, r *millrace.Race, n api.Net) api.Net {
	n.Streams = slices.Clone(n.Streams)
	for s := range n.Streams {
		size, _, _ := r.Room(s)
		sourced := slices.ContainsFunc(n.Sources, func(source api.Source) bool { return source.Stream == s })
		switch {
		case sourced:
			n.Streams[s] = 1 + d.roll(api.MaxRoom)
		case size > 0: // else nobody reads
			n.Streams[s] = 1 + d.roll(min(size, api.MaxRoom))
		}
	}
	return n
}

// reload: the race that Load makes of its state, half the time of a net with other rooms.
func reload(t *testing.T, d *dice, r *millrace.Race, n api.Net) (*millrace.Race, api.Net) {
	t.Helper()
	if d.roll(2) == 0 {
		n = refit(d, r, n)
	}
	return load(t, n, r.Save()), n
}

func isBeginning(short, long []int) bool {
	return len(short) <= len(long) && slices.Equal(short, long[:len(short)])
}

// outcome: what all races of nets that differ in rooms alone have come to, as far as any of them has.
type outcome struct {
	histories [][]int            // of each stream the longest
	looks     []map[int]api.Look // of each worker, by how many instructions it has done
}

func newOutcome(n api.Net) *outcome {
	o := &outcome{histories: make([][]int, len(n.Streams))}
	for range n.Workers {
		o.looks = append(o.looks, map[int]api.Look{})
	}
	return o
}

// holds P9 and P10 against what another race has come to; every history is a beginning of the longest
// one, or else it is the longest now, so that any two of them are as P9 says.
func (o *outcome) holds(t *testing.T, r *millrace.Race, n api.Net) {
	t.Helper()
	now := tell(r, n)
	for s, words := range now.histories {
		switch {
		case isBeginning(words, o.histories[s]):
		case isBeginning(o.histories[s], words):
			o.histories[s] = words
		default:
			t.Fatalf("P9: stream %d: %v, elsewhere %v, in %+v", s, words, o.histories[s], n)
		}
	}
	for w, seen := range now.looks {
		seen.State = 0
		if other, met := o.looks[w][seen.Steps]; met && other != seen {
			t.Fatalf("P10: worker %d: %+v, elsewhere %+v, in %+v", w, seen, other, n)
		}
		o.looks[w][seen.Steps] = seen
	}
}

// P9 and P10, in drawn nets: races that differ in rooms, along schedules of their own, saved and loaded between the steps.
func TestP9AndP10WhateverTheSchedule(t *testing.T) {
	d := dice(9)
	met, grown := 0, 0
	for range 400 {
		n := draw(&d)
		o := newOutcome(n)
		for k := range 4 {
			other := withRooms(&d, n)
			r := race(t, other)
			begun := other.Streams
			for range 60 {
				act(&d, r, other)
				if k%2 == 1 && d.roll(8) == 0 {
					r, other = reload(t, &d, r, other)
				}
				o.holds(t, r, other)
			}
			for s, size := range begun {
				if now, _, _ := r.Room(s); now > size {
					grown++
				}
			}
		}
		for _, looks := range o.looks {
			met += len(looks)
		}
	}
	if met < 5000 || grown < 300 {
		t.Errorf("only %d looks and %d streams that grew", met, grown)
	}
}

// P9 and P10, in drawn nets: races that go on from one state, each along a schedule of its own.
func TestP9AndP10FromOneState(t *testing.T) {
	d := dice(10)
	words := 0
	for range 400 {
		n := withRooms(&d, draw(&d))
		o := newOutcome(n)
		r := race(t, n)
		for range d.roll(40) {
			act(&d, r, n)
			o.holds(t, r, n)
		}
		for range 4 {
			s, other := reload(t, &d, r, n)
			for range 40 {
				act(&d, s, other)
				o.holds(t, s, other)
			}
		}
		for _, history := range o.histories {
			words += len(history)
		}
	}
	if words < 2000 {
		t.Errorf("only %d words", words)
	}
}

// P11, in drawn nets: those that Flow brings to ErrState, whatever was done ahead of it.
func TestP11WhateverTheSchedule(t *testing.T) {
	d := dice(11)
	ended, words, grown := 0, 0, 0
	for range 1500 {
		n := draw(&d)
		var first [][]int
		for k := range 4 {
			other := withRooms(&d, n)
			r := race(t, other)
			begun := other.Streams
			for range d.roll(60) {
				act(&d, r, other)
				if k%2 == 1 && d.roll(8) == 0 {
					r, other = reload(t, &d, r, other)
				}
			}
			if _, errno := r.Flow(3000); errno != api.ErrState {
				continue
			}
			now := tell(r, other)
			if first == nil {
				first = now.histories
			}
			ended++
			for s := range n.Streams {
				if !slices.Equal(first[s], now.histories[s]) {
					t.Fatalf("P11: stream %d: %v, elsewhere %v, in race %d of %+v", s, now.histories[s], first[s], k, n)
				}
				words += len(first[s])
				if now.rooms[s][0] > begun[s] {
					grown++
				}
			}
		}
	}
	if ended < 2000 || words < 10000 || grown < 100 {
		t.Errorf("only %d races ended, with %d words, and %d streams grew", ended, words, grown)
	}
}

// P11 where room is missing in one race and not in the other, and where it is known what must flow.
func TestP11RoomIsMade(t *testing.T) {
	d := dice(12)
	for limit := 1; limit <= 40; limit++ {
		for range 8 {
			n := withRooms(&d, hoarding(limit, 1, 1, 1))
			r := race(t, n)
			for range d.roll(200) {
				act(&d, r, n)
				if d.roll(8) == 0 {
					r, _ = reload(t, &d, r, n)
				}
			}
			if _, errno := r.Flow(100000); errno != api.ErrState {
				t.Fatalf("P6: Flow = %d", errno)
			}
			history(t, r, 0, upTo(limit)...)
			history(t, r, 1, limit)
			history(t, r, 2, upTo(limit)...)
			room(t, r, 0, max(n.Streams[0], limit), 0)
		}
	}
}

// watched: a race, and all words that its workers read from streams without a source.
type watched struct {
	*millrace.Race
	net  api.Net
	read [][]int
}

// note what an action of one instruction at most has read.
func (w *watched) note(action func()) {
	before := tell(w.Race, w.net).looks
	action()
	for worker, seen := range tell(w.Race, w.net).looks {
		if seen.Steps == before[worker].Steps {
			continue
		}
		i := w.net.Workers[worker][before[worker].Place]
		if i.Op == api.Read {
			w.read[i.B] = append(w.read[i.B], seen.Registers[i.A])
		}
	}
}

func (w *watched) holdsP12(t *testing.T) {
	t.Helper()
	for s := range w.net.Streams {
		size, inside, _ := w.Room(s)
		words, _ := w.History(s)
		if size == 0 { // there is a source, or nobody reads
			continue
		}
		if inside < 0 || inside > size || size > 40 {
			t.Fatalf("P12: Room(%d) = %d, %d, in %+v", s, size, inside, w.net)
		}
		if len(words) != len(w.read[s])+inside || !isBeginning(w.read[s], words) {
			t.Fatalf("P12: stream %d: %v, of which %v were read and %d are in it, in %+v", s, words, w.read[s], inside, w.net)
		}
	}
}

// P12, in drawn nets, saved and loaded between the steps.
func TestP12WhateverTheSchedule(t *testing.T) {
	d := dice(13)
	full, grown := 0, 0
	for range 500 {
		n := withRooms(&d, draw(&d))
		w := &watched{race(t, n), n, make([][]int, len(n.Streams))}
		for range 150 {
			w.note(func() {
				switch d.roll(10) {
				case 0:
					if _, errno := w.Grow(); errno == api.OK {
						grown++
					}
				case 1:
					w.Flow(1)
				default:
					if what, _ := w.Step(d.roll(len(n.Workers))); what == 3 {
						full++
					}
				}
			})
			w.holdsP12(t)
			if d.roll(8) == 0 {
				w.Race, w.net = reload(t, &d, w.Race, w.net)
				w.holdsP12(t)
			}
		}
	}
	if full < 300 || grown < 100 {
		t.Errorf("only %d times a stream was full, and %d times one grew", full, grown)
	}
}

// A small net whose reader lags behind, all of whose words come out in the end, in order.
func TestP12GrownWhileRead(t *testing.T) {
	for size := 1; size <= 6; size++ {
		n := hoarding(25, size, 1, 1)
		w := &watched{race(t, n), n, make([][]int, 3)}
		for errno := api.OK; errno == api.OK; {
			w.note(func() { _, errno = w.Flow(1) })
			w.holdsP12(t)
		}
		if !slices.Equal(w.read[0], upTo(25)) {
			t.Errorf("P12: read %v", w.read[0])
		}
	}
}
