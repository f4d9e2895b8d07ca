// Package millrace: workers along streams, whose outcome no schedule can change: see DOC.md.
package millrace

import (
	"millrace/api"
	"millrace/nets"
	"millrace/states"
	"millrace/streams"
	"millrace/workers"
)

// Race of workers along streams.
type Race struct {
	streams []*streams.Stream
	workers []*workers.Worker
}

// New makes a race (P3).
func New(n api.Net) (*Race, api.Errno) {
	if !nets.Valid(n) {
		return nil, api.ErrNet
	}
	return &Race{streams: newStreams(n), workers: newWorkers(n)}, api.OK
}

func newStreams(n api.Net) []*streams.Stream {
	made := make([]*streams.Stream, len(n.Streams))
	for i, room := range n.Streams {
		if nets.HasReader(n, i) {
			made[i] = streams.WithRoom(room)
		} else {
			made[i] = streams.Unread(room)
		}
	}
	for _, source := range n.Sources {
		made[source.Stream] = streams.FromSource(source.Words)
	}
	return made
}

func newWorkers(n api.Net) []*workers.Worker {
	made := make([]*workers.Worker, len(n.Workers))
	for i, code := range n.Workers {
		made[i] = workers.New(code)
	}
	return made
}

// Step lets a worker do an instruction (P4).
func (r *Race) Step(worker int) (int, api.Errno) {
	if !r.hasWorker(worker) {
		return 0, api.ErrArg
	}
	return r.workers[worker].Step(r.streams), api.OK
}

// Run some steps (P4).
func (r *Race) Run(schedule ...int) (int, api.Errno) {
	done := 0
	for _, worker := range schedule {
		what, errno := r.Step(worker)
		if errno != api.OK {
			return done, errno
		}
		if what == workers.Did {
			done++
		}
	}
	return done, api.OK
}

// Grow makes room (P5).
func (r *Race) Grow() (int, api.Errno) {
	tight, found := r.tightest()
	if !found || r.canGoOn() {
		return 0, api.ErrState
	}
	if room, _ := r.streams[tight].Room(); room == api.MaxGrown {
		return 0, api.ErrCap
	}
	r.streams[tight].Grow()
	return tight, api.OK
}

func (r *Race) canGoOn() bool {
	for _, w := range r.workers {
		if w.State(r.streams) == workers.Did {
			return true
		}
	}
	return false
}

// tightest: of the streams that a worker waits to write to, the first one of those with the least room.
func (r *Race) tightest() (int, bool) {
	tight, least, found := 0, 0, false
	for i, s := range r.streams {
		room, _ := s.Room()
		if r.needsRoom(i) && (!found || room < least) {
			tight, least, found = i, room, true
		}
	}
	return tight, found
}

// needsRoom tells if a worker waits to write to a stream.
func (r *Race) needsRoom(stream int) bool {
	for _, w := range r.workers {
		if at, waits := w.NeedsRoom(r.streams); waits && at == stream {
			return true
		}
	}
	return false
}

// Flow lets all go on (P6).
func (r *Race) Flow(most int) (int, api.Errno) {
	if most < 0 || most > api.MaxFlow {
		return 0, api.ErrArg
	}
	done := 0
	for done < most {
		if r.stepFirst() {
			done++
			continue
		}
		if _, errno := r.Grow(); errno != api.OK {
			return done, errno
		}
	}
	return done, api.OK
}

// stepFirst lets the first worker that can do an instruction do one; trying those that cannot changes nothing.
func (r *Race) stepFirst() bool {
	for _, w := range r.workers {
		if w.Step(r.streams) == workers.Did {
			return true
		}
	}
	return false
}

// Look at a worker (P7).
func (r *Race) Look(worker int) (api.Look, api.Errno) {
	if !r.hasWorker(worker) {
		return api.Look{}, api.ErrArg
	}
	return r.workers[worker].Look(r.streams), api.OK
}

// History of a stream (P7).
func (r *Race) History(stream int) ([]int, api.Errno) {
	if !r.hasStream(stream) {
		return nil, api.ErrArg
	}
	return r.streams[stream].History(), api.OK
}

// Room of a stream (P7).
func (r *Race) Room(stream int) (int, int, api.Errno) {
	if !r.hasStream(stream) {
		return 0, 0, api.ErrArg
	}
	room, words := r.streams[stream].Room()
	return room, words, api.OK
}

// Save the state (P8).
func (r *Race) Save() []byte {
	var state []byte
	for _, w := range r.workers {
		state = w.Save(state)
	}
	for _, s := range r.streams {
		state = s.Save(state)
	}
	return state
}

// Load a state (P8).
func Load(n api.Net, state []byte) (*Race, api.Errno) {
	r, errno := New(n)
	if errno != api.OK {
		return nil, errno
	}
	if !states.Read(state, r.load) {
		return nil, api.ErrState
	}
	return r, api.OK
}

// load into a race of which nobody has taken a step; what it is like if the reader gives up, nobody sees.
func (r *Race) load(from *states.Reader) {
	for _, w := range r.workers {
		w.Load(from)
	}
	for _, s := range r.streams {
		s.Load(from)
	}
}

func (r *Race) hasWorker(worker int) bool {
	return worker >= 0 && worker < len(r.workers)
}

func (r *Race) hasStream(stream int) bool {
	return stream >= 0 && stream < len(r.streams)
}
