// Package nets: which nets are nets, and who is at which end of a stream.
package nets

import (
	"millrace/api"
	"millrace/ops"
)

// Valid tells if n is a net.
func Valid(n api.Net) bool {
	return validStreams(n.Streams) &&
		validSources(n.Sources, len(n.Streams)) &&
		validWorkers(n.Workers, len(n.Streams)) &&
		validEnds(n)
}

// HasReader tells if a worker of n reads a stream.
func HasReader(n api.Net, stream int) bool {
	return users(n.Workers, ops.Read, stream) > 0
}

func validStreams(rooms []int) bool {
	if len(rooms) < 1 || len(rooms) > api.MaxStreams {
		return false
	}
	for _, room := range rooms {
		if room < 1 || room > api.MaxRoom {
			return false
		}
	}
	return true
}

func validSources(sources []api.Source, streams int) bool {
	for i, source := range sources {
		if source.Stream < 0 || source.Stream >= streams {
			return false
		}
		if len(source.Words) > api.MaxWords || hasSource(sources[:i], source.Stream) {
			return false
		}
	}
	return true
}

func validWorkers(workers [][]api.Ins, streams int) bool {
	if len(workers) < 1 || len(workers) > api.MaxWorkers {
		return false
	}
	for _, code := range workers {
		if !validCode(code, streams) {
			return false
		}
	}
	return true
}

func validCode(code []api.Ins, streams int) bool {
	if len(code) < 1 || len(code) > api.MaxCode {
		return false
	}
	for _, i := range code {
		if !ops.Valid(i, len(code), streams) {
			return false
		}
	}
	return true
}

// validEnds: with more than one at an end of a stream, the schedule would choose between them.
func validEnds(n api.Net) bool {
	for stream := range n.Streams {
		writers := users(n.Workers, ops.Write, stream)
		if hasSource(n.Sources, stream) {
			writers++
		}
		if writers > 1 || users(n.Workers, ops.Read, stream) > 1 {
			return false
		}
	}
	return true
}

func hasSource(sources []api.Source, stream int) bool {
	for _, source := range sources {
		if source.Stream == stream {
			return true
		}
	}
	return false
}

// users: how many workers do op, which is Read or Write, with a stream.
func users(workers [][]api.Ins, op, stream int) int {
	count := 0
	for _, code := range workers {
		if uses(code, op, stream) {
			count++
		}
	}
	return count
}

func uses(code []api.Ins, op, stream int) bool {
	for _, i := range code {
		if i.Op == op && i.B == stream {
			return true
		}
	}
	return false
}
