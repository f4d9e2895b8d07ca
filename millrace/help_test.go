package millrace_test

import (
	"reflect"
	"slices"
	"testing"

	"millrace/api"
	"millrace/millrace"
)

func in(op, a, b, c int) api.Ins { return api.Ins{Op: op, A: a, B: b, C: c} }

// idle: a program of so many instructions that uses no stream.
func idle(count int) []api.Ins { return slices.Repeat([]api.Ins{in(api.Set, 0, 0, 1)}, count) }

// doubling: the net of example 1.
func doubling() api.Net {
	return api.Net{
		Streams: []int{2, 1},
		Sources: []api.Source{{Stream: 0, Words: []int{5, 6}}},
		Workers: [][]api.Ins{{in(api.Read, 0, 0, 3), in(api.Add, 0, 0, 0), in(api.Write, 0, 1, 0)}},
	}
}

// passing: worker 0 writes 1, 2, 3 and so on to stream 0, of that room; worker 1 passes them on to stream 1.
func passing(room int) api.Net {
	return api.Net{
		Streams: []int{room, 1},
		Workers: [][]api.Ins{
			{in(api.Set, 1, 0, 1), in(api.Add, 0, 0, 1), in(api.Write, 0, 0, 0), in(api.Goto, 0, 0, 1)},
			{in(api.Read, 2, 0, 3), in(api.Write, 2, 1, 0), in(api.Goto, 0, 0, 0)},
		},
	}
}

func race(t *testing.T, n api.Net) *millrace.Race {
	t.Helper()
	r, errno := millrace.New(n)
	if r == nil || errno != api.OK {
		t.Fatalf("P3: New(%+v) = %v, %d", n, r, errno)
	}
	return r
}

func noNet(t *testing.T, what string, n api.Net) {
	t.Helper()
	if r, errno := millrace.New(n); r != nil || errno != api.ErrNet {
		t.Errorf("P3: %s: New(%+v) = %v, %d, want ErrNet", what, n, r, errno)
	}
}

// steps: what comes of the next steps of a worker, also as Look tells it ahead of each.
func steps(t *testing.T, r *millrace.Race, worker int, want ...int) {
	t.Helper()
	for i, k := range want {
		if seen, errno := r.Look(worker); seen.State != k || errno != api.OK {
			t.Fatalf("P7: State ahead of step %d of worker %d: %d, %d, want %d", i, worker, seen.State, errno, k)
		}
		if what, errno := r.Step(worker); what != k || errno != api.OK {
			t.Fatalf("P4: step %d of worker %d: %d, %d, want %d", i, worker, what, errno, k)
		}
	}
}

func look(t *testing.T, r *millrace.Race, worker int, want api.Look) {
	t.Helper()
	if got, errno := r.Look(worker); got != want || errno != api.OK {
		t.Errorf("P7: Look(%d) = %+v, %d, want %+v", worker, got, errno, want)
	}
}

func history(t *testing.T, r *millrace.Race, stream int, want ...int) {
	t.Helper()
	if got, errno := r.History(stream); !slices.Equal(got, want) || errno != api.OK {
		t.Errorf("P7: History(%d) = %v, %d, want %v", stream, got, errno, want)
	}
}

func room(t *testing.T, r *millrace.Race, stream, want, words int) {
	t.Helper()
	if a, b, errno := r.Room(stream); a != want || b != words || errno != api.OK {
		t.Errorf("P7: Room(%d) = %d, %d, %d, want %d, %d", stream, a, b, errno, want, words)
	}
}

func grow(t *testing.T, r *millrace.Race, want int, errno api.Errno) {
	t.Helper()
	if stream, got := r.Grow(); stream != want || got != errno {
		t.Fatalf("P5: Grow = %d, %d, want %d, %d", stream, got, want, errno)
	}
}

func flow(t *testing.T, r *millrace.Race, most, want int, errno api.Errno) {
	t.Helper()
	if done, got := r.Flow(most); done != want || got != errno {
		t.Fatalf("P6: Flow(%d) = %d, %d, want %d, %d", most, done, got, want, errno)
	}
}

// all that a race tells of itself.
type all struct {
	looks     []api.Look
	histories [][]int
	rooms     [][2]int
}

func tell(r *millrace.Race, n api.Net) all {
	var a all
	for w := range n.Workers {
		seen, _ := r.Look(w)
		a.looks = append(a.looks, seen)
	}
	for s := range n.Streams {
		words, _ := r.History(s)
		a.histories = append(a.histories, append([]int{}, words...))
		size, inside, _ := r.Room(s)
		a.rooms = append(a.rooms, [2]int{size, inside})
	}
	return a
}

// unchanged: a call that is to change nothing does so.
func unchanged(t *testing.T, r *millrace.Race, n api.Net, call func()) {
	t.Helper()
	before := tell(r, n)
	call()
	same(t, "P1", before, tell(r, n))
}

func same(t *testing.T, promise string, one, other all) {
	t.Helper()
	if !reflect.DeepEqual(one, other) {
		t.Fatalf("%s: %+v, and %+v", promise, one, other)
	}
}
