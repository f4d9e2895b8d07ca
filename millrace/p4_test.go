package millrace_test

import (
	"math"
	"slices"
	"testing"

	"millrace/api"
)

func TestP4Example1(t *testing.T) {
	r := race(t, doubling())
	steps(t, r, 0, 1, 1, 1, 4, 4)
	history(t, r, 1, 10)
	room(t, r, 1, 0, 0)
}

// The steps of example 2, which ends by a READ of a stream that ended.
func TestP4UntilTheSourceEnds(t *testing.T) {
	n := doubling()
	n.Workers[0] = append(n.Workers[0], in(api.Goto, 0, 0, 0))
	n.Workers[0][0].C = 4
	r := race(t, n)
	steps(t, r, 0, 1, 1, 1, 1, 1, 1, 1, 1)
	look(t, r, 0, api.Look{Registers: [4]int{12}, Steps: 8, State: 1})
	steps(t, r, 0, 1, 4)
	look(t, r, 0, api.Look{Place: 4, Registers: [4]int{12}, Steps: 9, State: 4})
	history(t, r, 0, 5, 6)
	history(t, r, 1, 10, 12)
}

// A source of nothing ended from the start; it goes on to have ended.
func TestP4EmptySource(t *testing.T) {
	r := race(t, api.Net{Streams: []int{1}, Sources: []api.Source{{}}, Workers: [][]api.Ins{{in(api.Read, 0, 0, 0)}}})
	steps(t, r, 0, 1, 1, 1)
	look(t, r, 0, api.Look{Steps: 3, State: 1})
	history(t, r, 0)
}

// A source has always more, however small its stream's room is.
func TestP4SourceHasNoRoom(t *testing.T) {
	words := make([]int, 50)
	for i := range words {
		words[i] = -i
	}
	r := race(t, api.Net{Streams: []int{1}, Sources: []api.Source{{Words: words}}, Workers: [][]api.Ins{{in(api.Read, 3, 0, 2), in(api.Goto, 0, 0, 0)}}})
	for range words {
		room(t, r, 0, 0, 0)
		steps(t, r, 0, 1, 1)
	}
	history(t, r, 0, words...)
	steps(t, r, 0, 1, 4)
	history(t, r, 0, words...)
}

// The first waits at a full stream, the second at an empty one, whatever the room.
func TestP4Waits(t *testing.T) {
	for size := 1; size <= 6; size++ {
		r := race(t, passing(size))
		steps(t, r, 1, 2, 2)
		steps(t, r, 0, 1)
		var wrote []int
		for i := range size {
			steps(t, r, 0, 1, 1, 1)
			wrote = append(wrote, i+1)
			room(t, r, 0, size, i+1)
			history(t, r, 0, wrote...)
		}
		steps(t, r, 0, 1, 3, 3)
		look(t, r, 0, api.Look{Place: 2, Registers: [4]int{size + 1, 1}, Steps: 3*size + 2, State: 3})
		history(t, r, 0, wrote...)
		room(t, r, 0, size, size)
		steps(t, r, 1, 1)
		look(t, r, 1, api.Look{Place: 1, Registers: [4]int{2: 1}, Steps: 1, State: 1})
		steps(t, r, 0, 1)
		wrote = append(wrote, size+1)
		for range size {
			steps(t, r, 1, 1, 1, 1)
		}
		steps(t, r, 1, 1, 1, 2)
		history(t, r, 0, wrote...)
		history(t, r, 1, wrote...)
		room(t, r, 0, size, 0)
	}
}

// A stream that nobody writes to and that has no source never ends.
func TestP4NobodyWrites(t *testing.T) {
	r := race(t, api.Net{Streams: []int{1}, Workers: [][]api.Ins{{in(api.Read, 0, 0, 1)}, idle(1)}})
	steps(t, r, 1, 1, 4)
	steps(t, r, 0, 2, 2)
	look(t, r, 0, api.Look{State: 2})
}

// That its writer is done does not end a stream.
func TestP4WriterIsDone(t *testing.T) {
	r := race(t, api.Net{Streams: []int{1}, Workers: [][]api.Ins{{in(api.Write, 0, 0, 0)}, {in(api.Read, 0, 0, 2), in(api.Read, 0, 0, 2)}}})
	steps(t, r, 0, 1, 4)
	steps(t, r, 1, 1, 2)
}

func TestP4NobodyReads(t *testing.T) {
	r := race(t, api.Net{Streams: []int{1}, Workers: [][]api.Ins{{in(api.Write, 0, 0, 0), in(api.Set, 0, 0, 3), in(api.Goto, 0, 0, 0)}}})
	want := []int{0}
	for len(want) < 200 {
		steps(t, r, 0, 1, 1, 1)
		history(t, r, 0, want...)
		room(t, r, 0, 0, 0)
		want = append(want, 3)
	}
}

func TestP4OwnStream(t *testing.T) {
	r := race(t, api.Net{Streams: []int{2}, Workers: [][]api.Ins{{
		in(api.Set, 0, 0, 7), in(api.Write, 0, 0, 0), in(api.Set, 0, 0, 8), in(api.Write, 0, 0, 0),
		in(api.Read, 1, 0, 0), in(api.Read, 2, 0, 0), in(api.Read, 3, 0, 0),
	}}})
	steps(t, r, 0, 1, 1, 1, 1)
	room(t, r, 0, 2, 2)
	steps(t, r, 0, 1, 1, 2)
	look(t, r, 0, api.Look{Place: 6, Registers: [4]int{8, 7, 8}, Steps: 6, State: 2})
	history(t, r, 0, 7, 8)

	r = race(t, api.Net{Streams: []int{1}, Workers: [][]api.Ins{{in(api.Write, 0, 0, 0), in(api.Write, 0, 0, 0), in(api.Read, 0, 0, 0)}}})
	steps(t, r, 0, 1, 3, 3)

	r = race(t, api.Net{Streams: []int{1}, Workers: [][]api.Ins{{in(api.Read, 0, 0, 0), in(api.Write, 0, 0, 0)}}})
	steps(t, r, 0, 2, 2)
}

func TestP4Reckoning(t *testing.T) {
	const most, least = math.MaxInt, math.MinInt
	for _, c := range []struct{ op, x, y, want int }{
		{api.Add, 2, 3, 5}, {api.Add, most, 1, least}, {api.Add, least, least, 0},
		{api.Sub, 2, 3, -1}, {api.Sub, least, 1, most}, {api.Sub, 0, least, least},
		{api.Mul, 2, -3, -6}, {api.Mul, most, most, 1}, {api.Mul, least, -1, least}, {api.Mul, least, 2, 0},
		{api.Less, 2, 3, 1}, {api.Less, 3, 2, 0}, {api.Less, 3, 3, 0}, {api.Less, least, most, 1}, {api.Less, most, least, 0},
	} {
		r := race(t, api.Net{Streams: []int{1}, Workers: [][]api.Ins{{in(api.Set, 1, 0, c.x), in(api.Set, 3, 0, c.y), in(c.op, 2, 1, 3), in(c.op, 1, 1, 3)}}})
		steps(t, r, 0, 1, 1, 1, 1, 4)
		look(t, r, 0, api.Look{Place: 4, Registers: [4]int{0, c.want, c.want, c.y}, Steps: 4, State: 4})
	}
}

func TestP4Jumps(t *testing.T) {
	for _, c := range []struct {
		i           api.Ins
		word, place int
	}{
		{in(api.If, 1, 0, 0), 0, 2}, {in(api.If, 1, 0, 0), -1, 0}, {in(api.If, 1, 0, 1), 1, 1}, {in(api.If, 1, 0, 3), math.MinInt, 3}, {in(api.If, 1, 0, 3), 0, 2},
		{in(api.Goto, 0, 0, 0), 0, 0}, {in(api.Goto, 0, 0, 1), 0, 1}, {in(api.Goto, 0, 0, 3), 0, 3},
	} {
		r := race(t, api.Net{Streams: []int{1}, Workers: [][]api.Ins{{in(api.Set, 1, 0, c.word), c.i, in(api.Set, 1, 0, 0)}}})
		steps(t, r, 0, 1, 1)
		state := 1
		if c.place == 3 {
			state = 4
		}
		look(t, r, 0, api.Look{Place: c.place, Registers: [4]int{1: c.word}, Steps: 2, State: state})
	}
}

func TestP4NoSuchWorker(t *testing.T) {
	r := race(t, passing(1))
	for _, worker := range []int{math.MinInt, -1, 2, 6, math.MaxInt} {
		if what, errno := r.Step(worker); what != 0 || errno != api.ErrArg {
			t.Errorf("P4: Step(%d) = %d, %d", worker, what, errno)
		}
	}
	look(t, r, 0, api.Look{State: 1})
	look(t, r, 1, api.Look{State: 2})
}

func TestP4Run(t *testing.T) {
	for _, c := range []struct {
		schedule []int
		done     int
		errno    api.Errno
		took     [2]int
	}{
		{nil, 0, api.OK, [2]int{}},
		{[]int{1, 1}, 0, api.OK, [2]int{}},
		{[]int{1, 0, 0, 0, 1, 1, 1, 1}, 6, api.OK, [2]int{3, 3}},
		{[]int{0, 0, 0, 0, 0, 0, 0}, 5, api.OK, [2]int{5, 0}},
		{[]int{2}, 0, api.ErrArg, [2]int{}},
		{[]int{0, 0, 0, 1, 1, -1, 0, 0}, 5, api.ErrArg, [2]int{3, 2}},
		{[]int{1, 0, 0, math.MaxInt, 0, math.MinInt}, 2, api.ErrArg, [2]int{2, 0}},
		{[]int{0, 2}, 1, api.ErrArg, [2]int{1, 0}},
	} {
		r, schedule := race(t, passing(1)), slices.Clone(c.schedule)
		if done, errno := r.Run(schedule...); done != c.done || errno != c.errno {
			t.Errorf("P4: Run(%v) = %d, %d, want %d, %d", c.schedule, done, errno, c.done, c.errno)
		}
		if !slices.Equal(schedule, c.schedule) {
			t.Errorf("P2: Run wrote into %v: %v", c.schedule, schedule)
		}
		for worker, want := range c.took {
			if seen, _ := r.Look(worker); seen.Steps != want {
				t.Errorf("P4: Run(%v): worker %d took %d steps, want %d", c.schedule, worker, seen.Steps, want)
			}
		}
	}
}

// Run is as Step of each.
func TestP4RunAndStep(t *testing.T) {
	schedule := []int{1, 0, 0, 0, 0, 0, 0, 1, 1, 0, 1, 1, 0, 0, 1, 1, 1, 0}
	one, other := race(t, passing(2)), race(t, passing(2))
	count := 0
	for _, worker := range schedule {
		if what, _ := one.Step(worker); what == 1 {
			count++
		}
	}
	if done, errno := other.Run(schedule...); done != count || errno != api.OK {
		t.Errorf("P4: Run = %d, %d, want %d", done, errno, count)
	}
	for i := range 2 {
		seen, _ := one.Look(i)
		look(t, other, i, seen)
		flowed, _ := one.History(i)
		history(t, other, i, flowed...)
	}
}

// Two races of one net have nothing in common.
func TestP4RacesApart(t *testing.T) {
	n := passing(1)
	one, other := race(t, n), race(t, n)
	steps(t, one, 0, 1, 1, 1)
	steps(t, other, 1, 2)
	history(t, other, 0)
	steps(t, other, 0, 1, 1, 1)
	history(t, one, 0, 1)
}
