package millrace_test

import (
	"bytes"
	"encoding/binary"
	"math"
	"reflect"
	"slices"
	"testing"

	"millrace/api"
	"millrace/millrace"
)

// state: numbers as bytes.
func state(numbers ...int) []byte {
	var b []byte
	for _, number := range numbers {
		b = binary.BigEndian.AppendUint64(b, uint64(number))
	}
	return b
}

func saves(t *testing.T, r *millrace.Race, want []byte) {
	t.Helper()
	if got := r.Save(); !bytes.Equal(got, want) {
		t.Fatalf("P8: Save = %v, want %v", got, want)
	}
}

// load a state that is one; Save tells it again.
func load(t *testing.T, n api.Net, b []byte) *millrace.Race {
	t.Helper()
	r, errno := millrace.Load(n, b)
	if r == nil || errno != api.OK {
		t.Fatalf("P8: Load(%+v, %v) = %v, %d", n, b, r, errno)
	}
	saves(t, r, b)
	return r
}

func noState(t *testing.T, what string, n api.Net, b []byte) {
	t.Helper()
	if r, errno := millrace.Load(n, b); r != nil || errno != api.ErrState {
		t.Errorf("P8: %s: Load(%+v, %v) = %v, %d, want ErrState", what, n, b, r, errno)
	}
}

// meeting: a net with a stream of each kind: 0 a source that is read, 1 written and read, 2 written and not read,
// 3 a source that nobody reads, 4 read and not written, 5 neither.
func meeting() api.Net {
	return api.Net{
		Streams: []int{1, 2, 3, 4, 5, 6},
		Sources: []api.Source{{Stream: 0, Words: []int{5, -6, 7}}, {Stream: 3, Words: []int{8, 9}}},
		Workers: [][]api.Ins{
			{in(api.Read, 0, 0, 3), in(api.Write, 0, 1, 0), in(api.Goto, 0, 0, 0)},
			{in(api.Read, 1, 1, 0), in(api.Add, 2, 2, 1), in(api.Write, 2, 2, 0), in(api.Goto, 0, 0, 0), in(api.Read, 3, 4, 0)},
		},
	}
}

// met: the numbers of a state of meeting.
func met() []int {
	return []int{
		1, 3, -1, 0, 0, 9, // worker 0
		4, 0, 11, 12, 13, 7, // worker 1
		2,                   // stream 0: read
		3, 2, 4, 5, 6, 7, 8, // stream 1: room, read, written, words
		3, 0, 2, 1, -1, // stream 2
		0,                // stream 3
		5, 1, 3, 7, 8, 9, // stream 4
		6, 0, 1, 4, // stream 5
	}
}

// Where some of the numbers of met stand.
const (
	place0, place1         = 0, 6
	register, stepsDone    = 1, 5 // of worker 0
	source0, source3       = 12, 25
	room1, read1, written1 = 13, 14, 15
	room2, read2, written2 = 20, 21, 22
	room4, read4, written4 = 26, 27, 28
	room5, read5, written5 = 32, 33, 34
)

// Numbers at the ends of what there is; uncounted is so many numbers that their bytes are more than can be counted.
const (
	lowest    = math.MinInt
	highest   = math.MaxInt
	uncounted = 1 << 61
)

// with: some numbers changed, told in pairs of where and what.
func with(numbers []int, changes ...int) []int {
	changed := slices.Clone(numbers)
	for i := 0; i < len(changes); i += 2 {
		changed[changes[i]] = changes[i+1]
	}
	return changed
}

func TestP8Example5(t *testing.T) {
	n := doubling()
	r := race(t, n)
	begun := state(0, 0, 0, 0, 0, 0, 0, 1, 0, 0)
	if len(begun) != 80 {
		t.Fatalf("%d bytes", len(begun))
	}
	saves(t, r, begun)
	r.Step(0)
	saves(t, r, state(1, 5, 0, 0, 0, 1, 1, 1, 0, 0))
	r.Step(0)
	r.Step(0)
	saves(t, r, state(3, 10, 0, 0, 0, 3, 1, 1, 0, 1, 10))
	s := load(t, n, begun)
	steps(t, s, 0, 1, 1, 1, 4)
	history(t, s, 1, 10)
}

func TestP8SaveOfEachKindOfStream(t *testing.T) {
	r := race(t, meeting())
	saves(t, r, state(0, 0, 0, 0, 0, 0, 0, 0, 0, 0, 0, 0, 0, 2, 0, 0, 3, 0, 0, 0, 5, 0, 0, 6, 0, 0))
	r.Run(0, 0, 0, 0, 0, 1, 1, 1)
	saves(t, r, state(2, -6, 0, 0, 0, 5, 3, 0, 5, 5, 0, 3, 2, 2, 1, 2, 5, -6, 3, 0, 1, 5, 0, 5, 0, 0, 6, 0, 0))
}

func TestP8SaveOfAStreamThatGrew(t *testing.T) {
	n := hoarding(25, 1, 1, 1)
	r := race(t, n)
	for range 30 {
		r.Flow(40)
		s := load(t, n, r.Save())
		same(t, "P8", tell(r, n), tell(s, n))
		r = s
	}
	if size, _, _ := r.Room(0); size != 25 {
		t.Errorf("P8: grew to %d", size)
	}
	history(t, r, 2, upTo(25)...)
}

func TestP8LoadTellsAll(t *testing.T) {
	n := meeting()
	r := load(t, n, state(met()...))
	look(t, r, 0, api.Look{Place: 1, Registers: [4]int{3, -1, 0, 0}, Steps: 9, State: 1})
	look(t, r, 1, api.Look{Place: 4, Registers: [4]int{0, 11, 12, 13}, Steps: 7, State: 1})
	for s, want := range [][2]int{{0, 0}, {3, 2}, {0, 0}, {0, 0}, {5, 2}, {0, 0}} {
		room(t, r, s, want[0], want[1])
	}
	for s, want := range [][]int{{5, -6}, {5, 6, 7, 8}, {1, -1}, {}, {7, 8, 9}, {4}} {
		history(t, r, s, want...)
	}
	steps(t, r, 0, 1, 1, 1, 3)
	look(t, r, 0, api.Look{Place: 1, Registers: [4]int{7, -1, 0, 0}, Steps: 12, State: 3})
	steps(t, r, 1, 1, 4)
	look(t, r, 1, api.Look{Place: 5, Registers: [4]int{0, 11, 12, 8}, Steps: 8, State: 4})
	history(t, r, 1, 5, 6, 7, 8, 3)
	grow(t, r, 1, api.OK)
	room(t, r, 1, 4, 3)
	steps(t, r, 0, 1, 1, 1, 4)
	history(t, r, 1, 5, 6, 7, 8, 3, 7)
}

func TestP8TakesTheEdges(t *testing.T) {
	n := meeting()
	for _, c := range [][]int{
		{}, {place0, 0}, {place0, 3}, {place1, 0}, {place1, 5},
		{register, lowest}, {register, highest}, {4, -1}, {7, lowest}, {10, highest},
		{stepsDone, lowest}, {stepsDone, -1}, {stepsDone, 0}, {stepsDone, highest}, {11, -5},
		{source0, 0}, {source0, 3}, {source3, 1}, {source3, 2},
		{room1, 2}, {room1, 4}, {room1, 40}, {room1, 2, read1, 2}, {read1, 1}, {read1, 3}, {read1, 4}, {room1, 4, read1, 0},
		{16, lowest}, {16, highest}, {19, -1}, {23, lowest}, {24, highest}, {29, -1},
		{room4, 6}, {room4, 40}, {read4, 0}, {read4, 3},
		{35, -1},
	} {
		load(t, n, state(with(met(), c...)...))
	}
}

func TestP8WrongNumbers(t *testing.T) {
	n := meeting()
	for _, c := range [][]int{
		{place0, 4}, {place0, -1}, {place0, highest}, {place0, lowest}, {place1, 6}, {place1, -1}, {place1, 1 << 32}, {place1, 1 << 8},
		{source0, 4}, {source0, -1}, {source0, highest}, {source0, lowest}, {source3, 3}, {source3, -1}, {source0, 1 << 32},
		{room1, 1}, {room1, 0}, {room1, -1}, {room1, -3}, {room1, 41}, {room1, highest}, {room1, lowest}, {room1, 1 << 32},
		{room2, 2}, {room2, 4}, {room2, 40}, {room2, 0}, {room2, -3}, {room2, lowest}, {room2, highest},
		{room4, 4}, {room4, 41}, {room5, 5}, {room5, 7}, {room5, 40}, {room5, 41}, {room5, -6},
		{read1, 5}, {read1, 0}, {room1, 2, read1, 1}, {read1, -1}, {read1, highest}, {read1, lowest}, {read1, uncounted},
		{read2, 1}, {read2, 2}, {read2, 3}, {read2, -1}, {read2, lowest}, {read2, highest}, {read5, 1}, {read5, -1},
		{read4, 4}, {read4, -1},
		{written1, 3}, {written1, 5}, {written1, 6}, {written1, 1}, {written1, 0}, {written1, -1}, {written1, lowest}, {written1, highest}, {written1, uncounted},
		{written2, 1}, {written2, 3}, {written2, 0}, {written2, -1}, {written2, -2}, {written2, lowest}, {written2, highest}, {written2, uncounted}, {written2, uncounted + 2},
		{written4, 2}, {written4, 4}, {written4, highest}, {written5, 0}, {written5, 2}, {written5, highest}, {written5, uncounted}, {written5, uncounted + 1}, {written5, lowest}, {written5, lowest + 1},
		{read1, highest, written1, highest}, {read1, highest, written1, lowest}, {read1, uncounted, written1, uncounted}, {read1, lowest, written1, lowest}, {read1, -2, written1, -2},
		{read1, highest - 1, written1, highest}, {read1, uncounted + 2, written1, uncounted + 4},
	} {
		noState(t, "wrong numbers", n, state(with(met(), c...)...))
	}
}

// As many words unread as there is room, and one more, for every room.
func TestP8FullAndOneMore(t *testing.T) {
	n := api.Net{Streams: []int{3}, Workers: [][]api.Ins{{in(api.Write, 0, 0, 0), in(api.Read, 0, 0, 0)}}}
	for size := 3; size <= 40; size++ {
		for read := range 3 {
			for inside := range size + 3 {
				words := upTo(read + inside)
				b := state(append([]int{0, 0, 0, 0, 0, 0, size, read, len(words)}, words...)...)
				if inside > size {
					noState(t, "more than there is room", n, b)
					continue
				}
				r := load(t, n, b)
				room(t, r, 0, size, inside)
				history(t, r, 0, words...)
			}
		}
	}
}

func TestP8LoadedAtTheCap(t *testing.T) {
	n := api.Net{Streams: []int{3}, Workers: [][]api.Ins{{in(api.Write, 0, 0, 0), in(api.Read, 0, 0, 0)}}}
	full := func(size int) []byte {
		return state(append([]int{0, 0, 0, 0, 0, 0, size, 0, size}, upTo(size)...)...)
	}
	r := load(t, n, full(40))
	steps(t, r, 0, 3)
	grow(t, r, 0, api.ErrCap)
	r = load(t, n, full(39))
	grow(t, r, 0, api.OK)
	steps(t, r, 0, 1, 1)
	look(t, r, 0, api.Look{Place: 2, Registers: [4]int{1}, Steps: 2, State: 4})
}

func TestP8Bytes(t *testing.T) {
	n := meeting()
	b := state(met()...)
	for k := range b {
		noState(t, "bytes missing", n, b[:k])
		noState(t, "bytes missing at the beginning", n, b[k+1:])
	}
	noState(t, "no bytes", n, nil)
	noState(t, "no bytes", n, []byte{})
	for more := 1; more <= 17; more++ {
		noState(t, "bytes left over", n, append(slices.Clone(b), make([]byte, more)...))
	}
	noState(t, "twice", n, append(slices.Clone(b), b...))
}

// A byte that is missing counts too where the numbers tell of it only at the end: a stream all of whose words are missing.
func TestP8WordsMissing(t *testing.T) {
	n := meeting()
	numbers := met()[:written5+1]
	for _, words := range []int{1, 2, 1000, 1 << 31, 1 << 32, uncounted - 1, uncounted, uncounted + 1, 1 << 62, highest} {
		noState(t, "words missing", n, state(with(numbers, written5, words)...))
	}
	load(t, n, state(with(numbers, written5, 0)...))
}

func TestP8NoNet(t *testing.T) {
	good, bad := meeting(), meeting()
	bad.Streams[2] = 7
	for _, b := range [][]byte{nil, {1}, state(met()...), race(t, good).Save()} {
		for _, n := range []api.Net{{}, bad} {
			if r, errno := millrace.Load(n, b); r != nil || errno != api.ErrNet {
				t.Errorf("P8: Load(%+v, %v) = %v, %d, want ErrNet", n, b, r, errno)
			}
		}
	}
}

// A state of one race is taken for another net if it could be one of it, and else it is not.
func TestP8OtherRooms(t *testing.T) {
	for s, least := range []int{1, 2, 3, 4, 5, 6} {
		for size := 1; size <= 6; size++ {
			n := meeting()
			n.Streams[s] = size
			b := state(met()...)
			switch unread := s == 2 || s == 5; {
			case s == 0, s == 3, unread && size == least, s == 1 && size <= 3, s == 4 && size <= 5:
				load(t, n, b)
			default:
				noState(t, "another room", n, b)
			}
		}
	}
}

func TestP8AnotherNet(t *testing.T) {
	b := race(t, doubling()).Save()
	more := doubling()
	more.Streams = append(more.Streams, 1)
	noState(t, "a stream more", more, b)
	more = doubling()
	more.Workers = append(more.Workers, idle(1))
	noState(t, "a worker more", more, b)
	fewer := doubling()
	fewer.Sources = nil
	noState(t, "no source", fewer, b)
	other := doubling()
	other.Sources[0].Words = []int{7}
	steps(t, load(t, other, b), 0, 1)
}

func TestP8StateIsNotKept(t *testing.T) {
	n := meeting()
	behind := append(state(met()...), 1, 2, 3)
	b := behind[: len(behind)-3 : len(behind)-1]
	before := slices.Clone(behind)
	r := load(t, n, b)
	told := tell(r, n)
	if !bytes.Equal(behind, before) || !reflect.DeepEqual(n, meeting()) {
		t.Errorf("P2: Load wrote into what was handed in: %v, %+v", behind, n)
	}
	for i := range behind {
		behind[i] = 99
	}
	n.Sources[0].Words[2], n.Workers[0][1] = 99, in(api.Set, 0, 0, 99)
	same(t, "P2", told, tell(r, n))
	saves(t, r, state(met()...))
	steps(t, r, 0, 1, 1, 1)
	look(t, r, 0, api.Look{Place: 1, Registers: [4]int{7, -1, 0, 0}, Steps: 12, State: 3})
}

func TestP8WrongStateIsNotWrittenInto(t *testing.T) {
	n := meeting()
	b := append(state(met()...), 1)
	before := slices.Clone(b)
	noState(t, "a byte left over", n, b)
	noState(t, "a byte missing", n, b[:len(b)-2])
	if !bytes.Equal(b, before) || !reflect.DeepEqual(n, meeting()) {
		t.Errorf("P2: Load wrote into what was handed in: %v, %+v", b, n)
	}
}

func TestP8SavedIsTheCallers(t *testing.T) {
	r := load(t, meeting(), state(met()...))
	one, other := r.Save(), r.Save()
	for i := range one[:cap(one)] {
		one[:cap(one)][i] = 99
	}
	if !bytes.Equal(other, state(met()...)) {
		t.Errorf("P2: two states share memory: %v", other)
	}
	saves(t, r, state(met()...))
}

func TestP8SaveChangesNothing(t *testing.T) {
	n := meeting()
	r := load(t, n, state(met()...))
	unchanged(t, r, n, func() { r.Save() })
}

// A race and one that was loaded from it go each its own way.
func TestP8ApartFromTheRace(t *testing.T) {
	n := passing(2)
	r := race(t, n)
	r.Run(0, 0, 0, 0, 0, 0, 1)
	b := r.Save()
	s := load(t, n, b)
	s.Flow(50)
	saves(t, r, b)
	other := s.Save()
	r.Run(1, 1, 1, 1)
	saves(t, s, other)
	again := load(t, n, b)
	again.Run(1, 1, 1, 1)
	saves(t, again, r.Save())
}

// Ordinary states, of drawn nets: a race that is saved and loaded over and over is as the model, which is not.
func TestStatesAsTheModel(t *testing.T) {
	d := dice(8)
	loaded, fitted := 0, 0
	for range 700 {
		n := draw(&d)
		r, m := race(t, n), newModel(n)
		for range 60 {
			switch d.roll(8) {
			case 0:
				stream, errno := m.grow()
				grow(t, r, stream, errno)
			case 1:
				most := d.roll(12)
				done, errno := m.flow(most)
				flow(t, r, most, done, errno)
			case 2:
				r = load(t, n, r.Save())
				loaded++
			case 3:
				other := refit(&d, r, n)
				r = load(t, other, r.Save())
				if !slices.Equal(other.Streams, n.Streams) {
					fitted++
				}
				n = other
			default:
				w := d.roll(len(n.Workers))
				want := m.step(w)
				if what, errno := r.Step(w); what != want || errno != api.OK {
					t.Fatalf("P4: Step(%d) = %d, %d, want %d, in %+v", w, what, errno, want, n)
				}
			}
			saves(t, r, m.save())
			m.agrees(t, r)
		}
		if t.Failed() {
			t.Fatalf("in the net %+v", n)
		}
	}
	if loaded < 1000 || fitted < 1000 {
		t.Errorf("only %d loaded, and %d with other rooms", loaded, fitted)
	}
}

// States of drawn nets that are damaged: those that P8 names are refused, and all others go on.
func TestP8Damaged(t *testing.T) {
	d := dice(80)
	var came [2]int
	for range 4000 {
		n := draw(&d)
		r := race(t, n)
		for range d.roll(40) {
			act(&d, r, n)
		}
		b := damage(&d, r.Save())
		if d.roll(4) == 0 {
			n = withRooms(&d, n)
		}
		if !isState(n, b) {
			came[0]++
			noState(t, "damaged", n, b)
			continue
		}
		came[1]++
		s := load(t, n, b)
		for range 30 {
			act(&d, s, n)
		}
		load(t, n, s.Save())
	}
	if came[0] < 500 || came[1] < 500 {
		t.Errorf("only %d were refused and %d not", came[0], came[1])
	}
}

// damage: some number is another one, or some bytes are missing or too many; or there is none.
func damage(d *dice, b []byte) []byte {
	at := 8 * d.roll(len(b)/8)
	switch d.roll(8) {
	case 0:
		return b[:d.roll(len(b))]
	case 1:
		return append(b, make([]byte, 1+d.roll(16))...)
	case 2:
		return slices.Delete(b, at, at+8)
	case 3:
		return slices.Insert(b, at, state(d.roll(5))...)
	case 4:
		edges := []int{lowest, highest, uncounted, -1, 0, 1, 6, 7, 40, 41}
		copy(b[at:], state(edges[d.roll(len(edges))]))
	case 5:
		b[at+7]++
	case 6:
		b[at+7]--
	}
	return b
}

// isState: what P8 says of bytes that are no state, put down in the plainest way.
func isState(n api.Net, b []byte) bool {
	numbers := make([]int, len(b)/8)
	for i := range numbers {
		numbers[i] = int(binary.BigEndian.Uint64(b[8*i:]))
	}
	m := newModel(n)
	for _, code := range n.Workers {
		if len(numbers) < 6 || numbers[0] < 0 || numbers[0] > len(code) {
			return false
		}
		numbers = numbers[6:]
	}
	for s, least := range n.Streams {
		if source := m.source(s); source != nil {
			if len(numbers) < 1 || numbers[0] < 0 || numbers[0] > len(source.Words) {
				return false
			}
			numbers = numbers[1:]
			continue
		}
		if len(numbers) < 3 {
			return false
		}
		size, read, written := numbers[0], numbers[1], numbers[2]
		if size < least || size > 40 || read < 0 || read > written {
			return false
		}
		if m.isRead(s) && written-read > size || !m.isRead(s) && (size != least || read != 0) {
			return false
		}
		numbers = numbers[3:]
		if written > len(numbers) {
			return false
		}
		numbers = numbers[written:]
	}
	return len(numbers) == 0 && len(b)%8 == 0
}
