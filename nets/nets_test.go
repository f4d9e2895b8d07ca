package nets

import (
	"testing"

	"millrace/api"
)

func in(op, a, b, c int) api.Ins { return api.Ins{Op: op, A: a, B: b, C: c} }

// rooms: so many streams of one room.
func rooms(count, room int) []int {
	list := make([]int, count)
	for i := range list {
		list[i] = room
	}
	return list
}

// idle: a program of so many instructions that uses no stream.
func idle(count int) []api.Ins {
	code := make([]api.Ins, count)
	for i := range code {
		code[i] = in(api.Set, 0, 0, 1)
	}
	return code
}

// crew: so many workers of one program.
func crew(count int, code []api.Ins) [][]api.Ins {
	list := make([][]api.Ins, count)
	for i := range list {
		list[i] = code
	}
	return list
}

func check(t *testing.T, what string, n api.Net, want bool) {
	t.Helper()
	if Valid(n) != want {
		t.Errorf("%s: %v, want %v", what, !want, want)
	}
}

func TestLimits(t *testing.T) {
	for count, want := range map[int]bool{0: false, 1: true, 8: true, 9: false} {
		check(t, "streams", api.Net{Streams: rooms(count, 1), Workers: crew(1, idle(1))}, want)
	}
	for room, want := range map[int]bool{-1 << 63: false, -1: false, 0: false, 1: true, 6: true, 7: false, 1<<63 - 1: false} {
		check(t, "room", api.Net{Streams: []int{room}, Workers: crew(1, idle(1))}, want)
		check(t, "last room", api.Net{Streams: []int{1, 1, room}, Workers: crew(1, idle(1))}, want)
		check(t, "room of a source", api.Net{Streams: []int{room}, Sources: []api.Source{{}}, Workers: crew(1, idle(1))}, want)
	}
	for count, want := range map[int]bool{0: false, 1: true, 6: true, 7: false} {
		check(t, "workers", api.Net{Streams: rooms(1, 1), Workers: crew(count, idle(1))}, want)
	}
	for count, want := range map[int]bool{0: false, 1: true, 20: true, 21: false} {
		check(t, "instructions", api.Net{Streams: rooms(1, 1), Workers: crew(1, idle(count))}, want)
		check(t, "instructions of the last", api.Net{Streams: rooms(1, 1), Workers: [][]api.Ins{idle(1), idle(count)}}, want)
	}
	for count, want := range map[int]bool{0: true, 50: true, 51: false} {
		sources := []api.Source{{Stream: 0}, {Stream: 1, Words: make([]int, count)}}
		check(t, "words", api.Net{Streams: rooms(2, 1), Sources: sources, Workers: crew(1, idle(1))}, want)
	}
}

func TestSources(t *testing.T) {
	for stream, want := range map[int]bool{-1 << 63: false, -1: false, 0: true, 1: true, 2: false, 1<<63 - 1: false} {
		check(t, "stream of a source", api.Net{Streams: rooms(2, 1), Sources: []api.Source{{Stream: stream}}, Workers: crew(1, idle(1))}, want)
	}
	all := make([]api.Source, 8)
	for i := range all {
		all[i].Stream = 7 - i
	}
	check(t, "a source each", api.Net{Streams: rooms(8, 1), Sources: all, Workers: crew(1, idle(1))}, true)
	check(t, "one source more", api.Net{Streams: rooms(8, 1), Sources: append(all, api.Source{Stream: 3}), Workers: crew(1, idle(1))}, false)
}

func TestEnds(t *testing.T) {
	reads, writes := []api.Ins{in(api.Read, 0, 0, 0), in(api.Read, 1, 0, 1)}, []api.Ins{in(api.Write, 0, 0, 0), in(api.Write, 1, 0, 0)}
	both := []api.Ins{in(api.Read, 0, 0, 0), in(api.Write, 0, 0, 0)}
	other := []api.Ins{in(api.Read, 0, 1, 0), in(api.Write, 0, 2, 0)}
	source := []api.Source{{Stream: 0}}
	for _, c := range []struct {
		what    string
		sources []api.Source
		workers [][]api.Ins
		want    bool
	}{
		{"one reads twice, one writes twice", nil, [][]api.Ins{reads, writes}, true},
		{"two read", nil, [][]api.Ins{reads, idle(1), reads}, false},
		{"two write", nil, [][]api.Ins{writes, idle(1), writes}, false},
		{"one reads and writes", nil, [][]api.Ins{both}, true},
		{"one reads and writes, another reads", nil, [][]api.Ins{both, reads}, false},
		{"one reads and writes, another writes", nil, [][]api.Ins{both, writes}, false},
		{"a source that one reads", source, [][]api.Ins{reads}, true},
		{"a source that two read", source, [][]api.Ins{reads, reads}, false},
		{"a source that one writes", source, [][]api.Ins{writes}, false},
		{"a source that one reads and writes", source, [][]api.Ins{both}, false},
		{"other streams", source, [][]api.Ins{reads, other}, true},
		{"other streams twice", source, [][]api.Ins{other, reads, other}, false},
		{"two write the last stream", source, [][]api.Ins{{in(api.Write, 0, 2, 0)}, {in(api.Write, 0, 2, 0)}}, false},
		{"a C that looks like a stream", nil, [][]api.Ins{{in(api.Set, 0, 0, 0), in(api.Goto, 0, 0, 0)}, {in(api.Read, 0, 0, 0)}}, true},
	} {
		check(t, c.what, api.Net{Streams: rooms(3, 1), Sources: c.sources, Workers: c.workers}, c.want)
	}
}

func TestWrongInstruction(t *testing.T) {
	check(t, "a place behind the end", api.Net{Streams: rooms(1, 1), Workers: [][]api.Ins{{in(api.Goto, 0, 0, 1)}}}, true)
	check(t, "a place too far", api.Net{Streams: rooms(1, 1), Workers: [][]api.Ins{{in(api.Goto, 0, 0, 2)}}}, false)
	check(t, "a stream too great", api.Net{Streams: rooms(1, 1), Workers: [][]api.Ins{idle(1), {in(api.Set, 0, 0, 0), in(api.Read, 0, 1, 0)}}}, false)
}

func TestHasReader(t *testing.T) {
	n := api.Net{Streams: rooms(3, 1), Workers: [][]api.Ins{{in(api.Write, 0, 0, 0)}, {in(api.Set, 0, 0, 0), in(api.Read, 0, 2, 0)}}}
	for stream, want := range []bool{false, false, true} {
		if HasReader(n, stream) != want {
			t.Errorf("HasReader of stream %d: %v", stream, !want)
		}
	}
}
