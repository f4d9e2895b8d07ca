package millrace_test

import (
	"slices"
	"testing"

	"millrace/api"
	"millrace/millrace"
)

// crossed: the net of example 3, with rooms of one's own.
func crossed(rooms ...int) api.Net {
	return api.Net{Streams: rooms, Workers: [][]api.Ins{
		{in(api.Write, 0, 0, 0), in(api.Write, 0, 0, 0), in(api.Write, 0, 1, 0)},
		{in(api.Read, 0, 1, 0), in(api.Read, 0, 0, 0), in(api.Read, 0, 0, 0)},
	}}
}

// piling: worker k writes 1, 2, 3 and so on to stream streams[k] for ever, and the last one,
// who would read them all, waits for ever at a stream behind them.
func piling(rooms []int, streams ...int) api.Net {
	n := api.Net{Streams: append(slices.Clone(rooms), 1)}
	reader := []api.Ins{in(api.Read, 0, len(rooms), 0)}
	for _, s := range streams {
		n.Workers = append(n.Workers, []api.Ins{in(api.Set, 1, 0, 1), in(api.Add, 0, 0, 1), in(api.Write, 0, s, 0), in(api.Goto, 0, 0, 1)})
		reader = append(reader, in(api.Read, 0, s, 0))
	}
	n.Workers = append(n.Workers, reader)
	return n
}

// hoarding: worker 0 writes 1, 2 and so on, up to limit, to stream 0, and then one word to stream 1,
// for which worker 1 waits, ahead of passing all the others on to stream 2.
func hoarding(limit int, rooms ...int) api.Net {
	return api.Net{Streams: rooms, Workers: [][]api.Ins{
		{
			in(api.Set, 1, 0, 1), in(api.Set, 2, 0, limit),
			in(api.Add, 0, 0, 1), in(api.Write, 0, 0, 0), in(api.Less, 3, 0, 2), in(api.If, 3, 0, 2),
			in(api.Write, 0, 1, 0),
		},
		{in(api.Read, 0, 1, 0), in(api.Read, 0, 0, 0), in(api.Write, 0, 2, 0), in(api.Goto, 0, 0, 1)},
	}}
}

// upTo: 1, 2 and so on, up to limit.
func upTo(limit int) []int {
	var words []int
	for i := range limit {
		words = append(words, i+1)
	}
	return words
}

// exhaust: every worker takes its steps till none can.
func exhaust(r *millrace.Race, n api.Net) {
	for went := true; went; {
		went = false
		for w := range n.Workers {
			for what, _ := r.Step(w); what == 1; what, _ = r.Step(w) {
				went = true
			}
		}
	}
}

func TestP5Example3(t *testing.T) {
	n := crossed(1, 1)
	r := race(t, n)
	unchanged(t, r, n, func() { grow(t, r, 0, api.ErrState) })
	steps(t, r, 0, 1, 3)
	steps(t, r, 1, 2)
	grow(t, r, 0, api.OK)
	room(t, r, 0, 2, 1)
	room(t, r, 1, 1, 0)
	unchanged(t, r, n, func() { grow(t, r, 0, api.ErrState) })
	steps(t, r, 0, 1)
	room(t, r, 0, 2, 2)
	steps(t, r, 0, 1, 4)
	steps(t, r, 1, 1, 1, 1, 4)
	unchanged(t, r, n, func() { grow(t, r, 0, api.ErrState) })
	room(t, r, 0, 2, 0)
	history(t, r, 0, 0, 0)
	history(t, r, 1, 0)
}

// None waits to write: all are done, or wait to read.
func TestP5NoneWaitsToWrite(t *testing.T) {
	for _, workers := range [][][]api.Ins{
		{{in(api.Set, 0, 0, 1)}},
		{{in(api.Read, 0, 0, 0)}},
		{{in(api.Read, 0, 0, 0)}, {in(api.Set, 0, 0, 1)}},
		{{in(api.Write, 0, 0, 0)}, {in(api.Read, 0, 1, 0), in(api.Read, 0, 0, 0)}},
	} {
		n := api.Net{Streams: []int{1, 1}, Workers: workers}
		r := race(t, n)
		exhaust(r, n)
		unchanged(t, r, n, func() { grow(t, r, 0, api.ErrState) })
	}
}

// One that could go on keeps any stream from growing: ahead of those that wait to write, or behind them.
func TestP5OneCouldGoOn(t *testing.T) {
	writer, reader := []api.Ins{in(api.Write, 0, 0, 0), in(api.Goto, 0, 0, 0)}, []api.Ins{in(api.Read, 0, 1, 0), in(api.Read, 0, 0, 0)}
	for place := range 3 {
		n := api.Net{Streams: []int{1, 1}, Workers: slices.Insert([][]api.Ins{writer, reader}, place, idle(2))}
		r := race(t, n)
		first := 0
		if place == 0 {
			first = 1
		}
		steps(t, r, first, 1, 1, 3)
		unchanged(t, r, n, func() { grow(t, r, 0, api.ErrState) })
		steps(t, r, place, 1)
		unchanged(t, r, n, func() { grow(t, r, 0, api.ErrState) })
		steps(t, r, place, 1, 4)
		grow(t, r, 0, api.OK)
	}
}

// A READ of a stream that ended is an instruction that a worker can do.
func TestP5EndedIsNoWaiting(t *testing.T) {
	n := api.Net{Streams: []int{1, 1}, Sources: []api.Source{{Stream: 1}}, Workers: [][]api.Ins{
		{in(api.Write, 0, 0, 0), in(api.Goto, 0, 0, 0)},
		{in(api.Read, 0, 1, 2), in(api.Read, 0, 0, 0)},
	}}
	r := race(t, n)
	steps(t, r, 0, 1, 1, 3)
	unchanged(t, r, n, func() { grow(t, r, 0, api.ErrState) })
	steps(t, r, 1, 1, 4)
	grow(t, r, 0, api.OK)
}

// The stream with the least room grows, the first of these, by the streams' numbers and not by the workers'.
func TestP5WhichGrows(t *testing.T) {
	for _, c := range []struct {
		rooms, writes []int
		grows         []int
	}{
		{[]int{1}, []int{0}, []int{0, 0, 0}},
		{[]int{1, 1, 1}, []int{0, 1, 2}, []int{0, 1, 2, 0, 1, 2, 0}},
		{[]int{1, 1, 1}, []int{2, 1, 0}, []int{0, 1, 2, 0, 1, 2, 0}},
		{[]int{3, 2, 2}, []int{0, 1, 2}, []int{1, 2, 0, 1, 2, 0}},
		{[]int{3, 2, 2}, []int{2, 0, 1}, []int{1, 2, 0, 1, 2, 0}},
		{[]int{2, 3, 1}, []int{1, 2, 0}, []int{2, 0, 2, 0, 1, 2, 0}},
		{[]int{6, 1}, []int{0, 1}, []int{1, 1, 1, 1, 1, 0, 1}},
		{[]int{1, 6, 1}, []int{1}, []int{1, 1}},
		{[]int{1, 1, 4, 5, 1}, []int{3, 2}, []int{2, 2, 3, 2}},
	} {
		n := piling(c.rooms, c.writes...)
		r, rooms := race(t, n), slices.Clone(c.rooms)
		for _, want := range c.grows {
			exhaust(r, n)
			grow(t, r, want, api.OK)
			unchanged(t, r, n, func() { grow(t, r, 0, api.ErrState) })
			rooms[want]++
			for s, size := range rooms {
				if !slices.Contains(c.writes, s) {
					room(t, r, s, 0, 0)
				} else if s == want {
					room(t, r, s, size, size-1)
				} else {
					room(t, r, s, size, size)
				}
			}
		}
	}
}

// A full stream that nobody waits to write to does not grow, though it has the least room.
func TestP5FullIsNotEnough(t *testing.T) {
	n := piling([]int{1, 4}, 1)
	n.Workers = append(n.Workers, []api.Ins{in(api.Write, 0, 0, 0)})
	n.Workers[1] = append(n.Workers[1], in(api.Read, 0, 0, 0))
	r := race(t, n)
	exhaust(r, n)
	room(t, r, 0, 1, 1)
	grow(t, r, 1, api.OK)
	room(t, r, 0, 1, 1)
	room(t, r, 1, 5, 4)
}

// A worker that writes a stream that it reads itself, and waits there for itself.
func TestP5OwnStream(t *testing.T) {
	n := api.Net{Streams: []int{1}, Workers: [][]api.Ins{{
		in(api.Set, 0, 0, 7), in(api.Write, 0, 0, 0), in(api.Set, 0, 0, 8), in(api.Write, 0, 0, 0),
		in(api.Read, 1, 0, 0), in(api.Read, 2, 0, 0), in(api.Read, 3, 0, 0),
	}}}
	r := race(t, n)
	steps(t, r, 0, 1, 1, 1, 3)
	grow(t, r, 0, api.OK)
	room(t, r, 0, 2, 1)
	steps(t, r, 0, 1, 1, 1, 2)
	look(t, r, 0, api.Look{Place: 6, Registers: [4]int{8, 7, 8}, Steps: 6, State: 2})
	unchanged(t, r, n, func() { grow(t, r, 0, api.ErrState) })
}

// Up to MaxGrown, whatever a stream began with.
func TestP5MaxGrown(t *testing.T) {
	for size := 1; size <= 6; size++ {
		n := piling([]int{size}, 0)
		r := race(t, n)
		for now := size; now < 40; now++ {
			exhaust(r, n)
			room(t, r, 0, now, now)
			grow(t, r, 0, api.OK)
		}
		room(t, r, 0, 40, 39)
		unchanged(t, r, n, func() { grow(t, r, 0, api.ErrState) })
		exhaust(r, n)
		room(t, r, 0, 40, 40)
		for range 3 {
			unchanged(t, r, n, func() { grow(t, r, 0, api.ErrCap) })
		}
	}
}

// One that has MaxGrown does not keep another from growing: stream 2 is waited at only when stream 0 has it.
func TestP5OneHasMaxGrown(t *testing.T) {
	n := hoarding(40, 1, 1, 1, 1)
	n.Workers[0] = append(n.Workers[0], in(api.Goto, 0, 0, 2))
	n.Workers[1] = []api.Ins{in(api.Read, 0, 1, 0), in(api.Write, 0, 2, 0), in(api.Goto, 0, 0, 1)}
	n.Workers = append(n.Workers, []api.Ins{in(api.Read, 0, 3, 0), in(api.Read, 0, 0, 0), in(api.Read, 0, 2, 0)})
	r := race(t, n)
	for _, stream := range []int{0, 2} {
		for range 39 {
			exhaust(r, n)
			grow(t, r, stream, api.OK)
		}
	}
	exhaust(r, n)
	unchanged(t, r, n, func() { grow(t, r, 0, api.ErrCap) })
	room(t, r, 0, 40, 40)
	room(t, r, 2, 40, 40)
}

// What is in a stream, and its order, outlast all that growing.
func TestP5GrownIsRead(t *testing.T) {
	for size := 1; size <= 6; size++ {
		n := hoarding(40, size, 1, 1)
		r := race(t, n)
		for now := size; now < 40; now++ {
			exhaust(r, n)
			grow(t, r, 0, api.OK)
		}
		exhaust(r, n)
		unchanged(t, r, n, func() { grow(t, r, 0, api.ErrState) })
		history(t, r, 0, upTo(40)...)
		history(t, r, 2, upTo(40)...)
		room(t, r, 0, 40, 0)
	}
}
