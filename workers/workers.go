// Package workers: a worker, and how it takes a step.
package workers

import (
	"millrace/api"
	"millrace/ops"
	"millrace/states"
	"millrace/streams"
)

// What comes of a step, or would come of it.
const (
	Did = iota + 1
	WaitsToRead
	WaitsToWrite
	Done
)

// Worker with its program.
type Worker struct {
	code      []api.Ins
	place     int
	registers [ops.Registers]int
	steps     int
}

// New makes a worker that has taken no step; code is the program of a worker of a net.
func New(code []api.Ins) *Worker {
	return &Worker{code: append([]api.Ins(nil), code...)}
}

// Look at the worker; the streams are all those of its net.
func (w *Worker) Look(along []*streams.Stream) api.Look {
	return api.Look{Place: w.place, Registers: w.registers, Steps: w.steps, State: w.State(along)}
}

// State: what would come of a step; the streams are all those of the worker's net.
func (w *Worker) State(along []*streams.Stream) int {
	if w.place >= len(w.code) {
		return Done
	}
	at := w.code[w.place]
	switch {
	case at.Op == ops.Read && along[at.B].Waiting():
		return WaitsToRead
	case at.Op == ops.Write && along[at.B].Full():
		return WaitsToWrite
	}
	return Did
}

// NeedsRoom: the stream that the worker waits to write to, if it does; the streams are all those of its net.
func (w *Worker) NeedsRoom(along []*streams.Stream) (int, bool) {
	if w.State(along) != WaitsToWrite {
		return 0, false
	}
	return w.code[w.place].B, true
}

// Step does one instruction, if it can; the streams are all those of the worker's net.
func (w *Worker) Step(along []*streams.Stream) int {
	if w.place >= len(w.code) {
		return Done
	}
	at, next := w.code[w.place], w.place+1
	switch at.Op {
	case ops.Read:
		goto read
	case ops.Write:
		goto write
	case ops.Set:
		goto set
	case ops.If:
		goto branch
	case ops.Goto:
		goto jump
	default:
		goto reckon
	}
read:
	switch word, what := along[at.B].Take(); what {
	case streams.Empty:
		return WaitsToRead
	case streams.Ended:
		goto jump
	default:
		w.registers[at.A] = word
		goto did
	}
write:
	if along[at.B].Put(w.registers[at.A]) {
		goto did
	}
	return WaitsToWrite
set:
	w.registers[at.A] = at.C
	goto did
reckon:
	w.registers[at.A] = reckoned(at.Op, w.registers[at.B], w.registers[at.C])
	goto did
branch:
	if w.registers[at.A] == 0 {
		goto did
	}
jump:
	next = at.C
did:
	w.place = next
	w.steps++
	return Did
}

// reckoned: what Add, Sub, Mul or Less makes of two words.
func reckoned(op, b, c int) int {
	switch {
	case op == ops.Add:
		return b + c
	case op == ops.Sub:
		return b - c
	case op == ops.Mul:
		return b * c
	case b < c:
		return 1
	}
	return 0
}

// Save the worker behind a state.
func (w *Worker) Save(state []byte) []byte {
	state = states.Append(state, w.place)
	state = states.Append(state, w.registers[:]...)
	return states.Append(state, w.steps)
}

// Load into the worker.
func (w *Worker) Load(from *states.Reader) {
	w.place = from.Within(0, len(w.code))
	for i := range w.registers {
		w.registers[i] = from.Number()
	}
	w.steps = from.Number()
}
