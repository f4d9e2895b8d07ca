package workers

import (
	"bytes"
	"math"
	"testing"

	"millrace/api"
	"millrace/states"
	"millrace/streams"
)

func in(op, a, b, c int) api.Ins { return api.Ins{Op: op, A: a, B: b, C: c} }

func look(t *testing.T, w *Worker, along []*streams.Stream, want api.Look) {
	t.Helper()
	if got := w.Look(along); got != want {
		t.Errorf("Look = %+v, want %+v", got, want)
	}
}

func step(t *testing.T, w *Worker, along []*streams.Stream, want int) {
	t.Helper()
	if state := w.Look(along).State; state != want {
		t.Errorf("State = %d, want %d", state, want)
	}
	if got := w.Step(along); got != want {
		t.Errorf("Step = %d, want %d", got, want)
	}
}

func TestReckoning(t *testing.T) {
	const most, least = math.MaxInt, math.MinInt
	for _, c := range []struct{ op, b, c, want int }{
		{api.Add, 3, -5, -2}, {api.Add, most, 1, least}, {api.Add, least, -1, most}, {api.Add, least, least, 0},
		{api.Sub, 3, 5, -2}, {api.Sub, least, 1, most}, {api.Sub, most, -1, least}, {api.Sub, 0, least, least},
		{api.Mul, -3, 5, -15}, {api.Mul, most, 2, -2}, {api.Mul, least, -1, least}, {api.Mul, 1 << 32, 1 << 32, 0},
		{api.Less, 3, 5, 1}, {api.Less, 5, 3, 0}, {api.Less, 5, 5, 0}, {api.Less, least, most, 1}, {api.Less, most, least, 0}, {api.Less, -1, 0, 1},
	} {
		w := New([]api.Ins{in(c.op, 3, 1, 2)})
		w.registers = [4]int{8, c.b, c.c, 77}
		step(t, w, nil, Did)
		look(t, w, nil, api.Look{Place: 1, Registers: [4]int{8, c.b, c.c, c.want}, Steps: 1, State: Done})
		step(t, w, nil, Done)
	}
}

func TestReckoningOntoItself(t *testing.T) {
	for _, c := range []struct{ op, a, b, c, want int }{
		{api.Add, 1, 1, 1, 14}, {api.Sub, 1, 2, 1, 2}, {api.Sub, 2, 2, 1, 2}, {api.Mul, 1, 1, 2, 63},
		{api.Less, 1, 1, 2, 1}, {api.Less, 2, 1, 2, 1}, {api.Less, 1, 2, 1, 0}, {api.Less, 2, 2, 2, 0},
	} {
		w := New([]api.Ins{in(c.op, c.a, c.b, c.c)})
		w.registers = [4]int{0, 7, 9, 0}
		step(t, w, nil, Did)
		if w.registers[c.a] != c.want {
			t.Errorf("%+v: %v", c, w.registers)
		}
	}
}

func TestJumps(t *testing.T) {
	for _, c := range []struct {
		i        api.Ins
		register int
		place    int
	}{
		{in(api.If, 2, 0, 0), 0, 2}, {in(api.If, 2, 0, 0), 1, 0}, {in(api.If, 2, 0, 3), -1, 3}, {in(api.If, 2, 0, 1), 5, 1},
		{in(api.Goto, 0, 0, 0), 0, 0}, {in(api.Goto, 0, 0, 1), 0, 1}, {in(api.Goto, 0, 0, 3), 0, 3}, {in(api.Set, 2, 0, 0), 0, 2},
	} {
		w := New([]api.Ins{in(api.Set, 2, 0, c.register), c.i, in(api.Set, 0, 0, 0)})
		step(t, w, nil, Did)
		step(t, w, nil, Did)
		state := Did
		if c.place == 3 {
			state = Done
		}
		look(t, w, nil, api.Look{Place: c.place, Registers: [4]int{2: c.register}, Steps: 2, State: state})
	}
}

func TestWaitingChangesNothing(t *testing.T) {
	along := []*streams.Stream{streams.WithRoom(1)}
	w := New([]api.Ins{in(api.Read, 1, 0, 2), in(api.Set, 0, 0, 0)})
	w.registers[1] = 5
	step(t, w, along, WaitsToRead)
	look(t, w, along, api.Look{Registers: [4]int{1: 5}, State: WaitsToRead})
	along[0].Put(6)
	step(t, w, along, Did)
	look(t, w, along, api.Look{Place: 1, Registers: [4]int{1: 6}, Steps: 1, State: Did})

	w = New([]api.Ins{in(api.Write, 3, 0, 0)})
	w.registers[3] = 8
	along[0].Put(7)
	step(t, w, along, WaitsToWrite)
	look(t, w, along, api.Look{Registers: [4]int{3: 8}, State: WaitsToWrite})
	along[0].Take()
	step(t, w, along, Did)
	look(t, w, along, api.Look{Place: 1, Registers: [4]int{3: 8}, Steps: 1, State: Done})
	if word, _ := along[0].Take(); word != 8 {
		t.Errorf("wrote %d", word)
	}
}

func TestNeedsRoom(t *testing.T) {
	along := []*streams.Stream{streams.WithRoom(1), streams.Unread(1), streams.WithRoom(1), streams.FromSource(nil)}
	along[2].Put(4)
	for _, c := range []struct {
		i      api.Ins
		stream int
		waits  bool
	}{
		{in(api.Write, 0, 2, 0), 2, true}, {in(api.Write, 0, 0, 0), 0, false}, {in(api.Write, 0, 1, 0), 0, false},
		{in(api.Read, 0, 0, 0), 0, false}, {in(api.Read, 0, 2, 0), 0, false}, {in(api.Read, 0, 3, 0), 0, false},
		{in(api.Set, 0, 0, 0), 0, false}, {in(api.Sub, 0, 2, 0), 0, false}, {in(api.Goto, 0, 0, 1), 0, false},
	} {
		w := New([]api.Ins{c.i})
		if stream, waits := w.NeedsRoom(along); stream != c.stream || waits != c.waits {
			t.Errorf("%+v: NeedsRoom = %d, %v", c.i, stream, waits)
		}
	}
	w := New([]api.Ins{in(api.Goto, 0, 0, 1)})
	step(t, w, along, Did)
	if stream, waits := w.NeedsRoom(along); stream != 0 || waits {
		t.Errorf("of one that is done: NeedsRoom = %d, %v", stream, waits)
	}
}

func TestReadAtTheEnd(t *testing.T) {
	along := []*streams.Stream{streams.FromSource([]int{4})}
	w := New([]api.Ins{in(api.Read, 0, 0, 2), in(api.Goto, 0, 0, 0)})
	for range 3 {
		step(t, w, along, Did)
	}
	look(t, w, along, api.Look{Place: 2, Registers: [4]int{4}, Steps: 3, State: Done})
	step(t, w, along, Done)
	look(t, w, along, api.Look{Place: 2, Registers: [4]int{4}, Steps: 3, State: Done})
}

func TestStepsWrapRound(t *testing.T) {
	w := New([]api.Ins{in(api.Goto, 0, 0, 0)})
	w.steps = math.MaxInt
	step(t, w, nil, Did)
	look(t, w, nil, api.Look{Steps: math.MinInt, State: Did})
}

func TestCodeIsNotKept(t *testing.T) {
	code := []api.Ins{in(api.Set, 0, 0, 1)}
	w := New(code)
	code[0] = in(api.Set, 0, 0, 2)
	step(t, w, nil, Did)
	look(t, w, nil, api.Look{Place: 1, Registers: [4]int{1}, Steps: 1, State: Done})
}

func TestState(t *testing.T) {
	code := []api.Ins{in(api.Set, 1, 0, -5), in(api.Goto, 0, 0, 2)}
	w := New(code)
	if got := w.Save([]byte{9}); !bytes.Equal(got, states.Append([]byte{9}, 0, 0, 0, 0, 0, 0)) {
		t.Errorf("Save = %v", got)
	}
	step(t, w, nil, Did)
	if got := w.Save(nil); !bytes.Equal(got, states.Append(nil, 1, 0, -5, 0, 0, 1)) {
		t.Errorf("Save = %v", got)
	}
	for _, numbers := range [][]int{{0, 1, 2, 3, 4, 5}, {1, -1, math.MinInt, math.MaxInt, 0, math.MinInt}, {2, 0, 0, 0, 0, -1}} {
		w := New(code)
		if !states.Read(states.Append(nil, numbers...), w.Load) || !bytes.Equal(w.Save(nil), states.Append(nil, numbers...)) {
			t.Errorf("Load of %v: %+v", numbers, w)
		}
	}
	for _, numbers := range [][]int{{3, 0, 0, 0, 0, 0}, {-1, 0, 0, 0, 0, 0}, {math.MaxInt, 0, 0, 0, 0, 0}, {math.MinInt, 0, 0, 0, 0, 0}, {0, 0, 0, 0, 0}, {}} {
		if states.Read(states.Append(nil, numbers...), New(code).Load) {
			t.Errorf("took %v", numbers)
		}
	}
}
