package millrace_test

import (
	"math"
	"testing"

	"millrace/api"
)

func TestP7NoSuchNumber(t *testing.T) {
	n := doubling()
	r := race(t, n)
	steps(t, r, 0, 1, 1)
	for _, number := range []int{math.MinInt, -1, 2, 8, math.MaxInt} {
		if seen, errno := r.Look(number); seen != (api.Look{}) || errno != api.ErrArg {
			t.Errorf("P7: Look(%d) = %+v, %d", number, seen, errno)
		}
		if list, errno := r.History(number); len(list) != 0 || errno != api.ErrArg {
			t.Errorf("P7: History(%d) = %v, %d", number, list, errno)
		}
		if size, words, errno := r.Room(number); size != 0 || words != 0 || errno != api.ErrArg {
			t.Errorf("P7: Room(%d) = %d, %d, %d", number, size, words, errno)
		}
	}
	// There are two streams, but only one worker.
	if _, errno := r.Look(1); errno != api.ErrArg {
		t.Errorf("P7: Look(1) = %d", errno)
	}
	room(t, r, 1, 0, 0)
}

func TestP7LookingChangesNothing(t *testing.T) {
	r := race(t, passing(2))
	if done, _ := r.Run(0, 0, 0, 0, 0, 0, 1); done != 7 {
		t.Fatalf("P4: Run did %d", done)
	}
	for range 3 {
		look(t, r, 0, api.Look{Place: 3, Registers: [4]int{2, 1}, Steps: 6, State: 1})
		look(t, r, 1, api.Look{Place: 1, Registers: [4]int{2: 1}, Steps: 1, State: 1})
		history(t, r, 0, 1, 2)
		history(t, r, 1)
		room(t, r, 0, 2, 1)
		room(t, r, 1, 0, 0)
	}
	steps(t, r, 1, 1, 1, 1, 1, 1, 2)
	history(t, r, 1, 1, 2)
}

// A stream that is read and has a source, that has a source and nobody reads, that is read, that nobody reads, that nobody uses.
func TestP7Room(t *testing.T) {
	r := race(t, api.Net{
		Streams: []int{1, 2, 3, 4, 5},
		Sources: []api.Source{{Stream: 1, Words: []int{7}}, {Stream: 0, Words: []int{4, 5}}},
		Workers: [][]api.Ins{
			{in(api.Read, 0, 0, 4), in(api.Write, 0, 2, 0), in(api.Write, 0, 3, 0), in(api.Goto, 0, 0, 0)},
			{in(api.Read, 0, 2, 0)},
		},
	})
	room(t, r, 2, 3, 0)
	steps(t, r, 0, 1, 1, 1, 1, 1, 1, 1, 1)
	for stream, want := range [][2]int{{}, {}, {3, 2}, {}, {}} {
		room(t, r, stream, want[0], want[1])
	}
	history(t, r, 0, 4, 5)
	history(t, r, 1)
	history(t, r, 2, 4, 5)
	history(t, r, 3, 4, 5)
	history(t, r, 4)
	steps(t, r, 1, 1, 4)
	room(t, r, 2, 3, 1)
	history(t, r, 2, 4, 5)
}

// Each list is the caller's alone: its words, and the spare room behind them.
func TestP7HistoryIsNewMemory(t *testing.T) {
	n := passing(3)
	n.Streams = append(n.Streams, 1)
	n.Sources = []api.Source{{Stream: 2, Words: []int{7, 8, 9}}}
	n.Workers = append(n.Workers, []api.Ins{in(api.Read, 0, 2, 1), in(api.Read, 0, 2, 1)})
	r := race(t, n)
	r.Run(0, 0, 0, 0, 0, 0, 0, 0, 0, 1, 1, 2)
	for stream, want := range [][]int{{1, 2, 3}, {1}, {7}} {
		list, _ := r.History(stream)
		other, _ := r.History(stream)
		list = list[:cap(list)]
		for i := range list {
			list[i] = 99
		}
		for i, word := range want {
			if other[i] != word {
				t.Errorf("P2: two lists share memory: %v", other)
			}
		}
		history(t, r, stream, want...)
	}
	steps(t, r, 2, 1, 4)
	history(t, r, 2, 7, 8)
	steps(t, r, 1, 1, 1, 1, 1, 1, 1, 1, 2)
	history(t, r, 1, 1, 2, 3)
}
