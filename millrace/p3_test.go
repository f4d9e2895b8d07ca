package millrace_test

import (
	"math"
	"slices"
	"testing"

	"millrace/api"
)

func TestP3NothingIsDoneYet(t *testing.T) {
	r := race(t, passing(2))
	look(t, r, 0, api.Look{State: 1})
	look(t, r, 1, api.Look{State: 2})
	history(t, r, 0)
	history(t, r, 1)
	room(t, r, 0, 2, 0)
	room(t, r, 1, 0, 0)
}

// An edge of New: a net with so many of something, and whether it is one.
type edge struct {
	what  string
	net   func(count int) api.Net
	least int
	most  int
}

func edges() []edge {
	one := [][]api.Ins{idle(1)}
	return []edge{
		{"streams", func(k int) api.Net { return api.Net{Streams: slices.Repeat([]int{1}, k), Workers: one} }, 1, 8},
		{"room", func(k int) api.Net { return api.Net{Streams: []int{1, k}, Workers: one} }, 1, 6},
		{"room of a source", func(k int) api.Net {
			return api.Net{Streams: []int{k}, Sources: []api.Source{{}}, Workers: one}
		}, 1, 6},
		{"words", func(k int) api.Net {
			return api.Net{Streams: []int{1}, Sources: []api.Source{{Words: make([]int, k)}}, Workers: one}
		}, 0, 50},
		{"workers", func(k int) api.Net { return api.Net{Streams: []int{1}, Workers: slices.Repeat(one, k)} }, 1, 6},
		{"instructions", func(k int) api.Net {
			return api.Net{Streams: []int{1}, Workers: [][]api.Ins{idle(1), idle(k)}}
		}, 1, 20},
		{"sources", func(k int) api.Net {
			n := api.Net{Streams: slices.Repeat([]int{1}, 8), Workers: one}
			for i := range k {
				n.Sources = append(n.Sources, api.Source{Stream: i % 8})
			}
			return n
		}, 0, 8},
	}
}

func TestP3Limits(t *testing.T) {
	for _, e := range edges() {
		race(t, e.net(e.least))
		race(t, e.net(e.most))
		noNet(t, e.what+", one too many", e.net(e.most+1))
		if e.least > 0 {
			noNet(t, e.what+", none", e.net(0))
		}
	}
	noNet(t, "nothing at all", api.Net{})
	noNet(t, "a room below 0", api.Net{Streams: []int{-1}, Workers: [][]api.Ins{idle(1)}})
	noNet(t, "the greatest room", api.Net{Streams: []int{math.MaxInt}, Workers: [][]api.Ins{idle(1)}})
}

func TestP3Sources(t *testing.T) {
	for _, stream := range []int{math.MinInt, -1, 2, math.MaxInt} {
		noNet(t, "a source without a stream", api.Net{Streams: []int{1, 1}, Sources: []api.Source{{Stream: stream}}, Workers: [][]api.Ins{idle(1)}})
	}
	noNet(t, "two sources of a stream", api.Net{Streams: []int{1, 1}, Sources: []api.Source{{Stream: 1}, {Stream: 0}, {Stream: 1}}, Workers: [][]api.Ins{idle(1)}})
}

func TestP3Instructions(t *testing.T) {
	// In a program of 3 instructions in a net of 2 streams: the greatest A, B and C of each op.
	const anything = math.MaxInt
	for _, g := range []api.Ins{
		in(api.Read, 3, 1, 3), in(api.Write, 3, 1, 0), in(api.Set, 3, 0, anything), in(api.Add, 3, 3, 3), in(api.Sub, 3, 3, 3),
		in(api.Mul, 3, 3, 3), in(api.Less, 3, 3, 3), in(api.If, 3, 0, 3), in(api.Goto, 0, 0, 3),
	} {
		net := func(i api.Ins) api.Net {
			return api.Net{Streams: []int{1, 1}, Workers: [][]api.Ins{{in(api.Set, 0, 0, 0), i, in(api.Set, 0, 0, 0)}}}
		}
		race(t, net(g))
		race(t, net(in(g.Op, 0, 0, 0)))
		for _, low := range []int{-1, math.MinInt} {
			noNet(t, "A below 0", net(in(g.Op, low, g.B, g.C)))
			noNet(t, "B below 0", net(in(g.Op, g.A, low, g.C)))
			if g.C != anything {
				noNet(t, "C below 0", net(in(g.Op, g.A, g.B, low)))
			} else {
				race(t, net(in(g.Op, g.A, g.B, low)))
			}
		}
		for _, more := range []int{1, 1000, math.MaxInt - 3} {
			noNet(t, "A too great", net(in(g.Op, g.A+more, g.B, g.C)))
			noNet(t, "B too great", net(in(g.Op, g.A, g.B+more, g.C)))
			if g.C != anything {
				noNet(t, "C too great", net(in(g.Op, g.A, g.B, g.C+more)))
			}
		}
	}
	for _, op := range []int{math.MinInt, -1, 0, 10, math.MaxInt} {
		noNet(t, "no such op", api.Net{Streams: []int{1}, Workers: [][]api.Ins{{in(op, 0, 0, 0)}}})
	}
}

func TestP3Ends(t *testing.T) {
	reads, writes := []api.Ins{in(api.Read, 0, 0, 0)}, []api.Ins{in(api.Write, 0, 0, 0)}
	both := append(slices.Clone(reads), writes...)
	net := func(sources []api.Source, workers ...[]api.Ins) api.Net {
		return api.Net{Streams: []int{1, 1}, Sources: sources, Workers: workers}
	}
	source := []api.Source{{Stream: 0}}
	race(t, net(nil, reads, writes))
	race(t, net(nil, both))
	race(t, net(source, append(reads, reads...)))
	noNet(t, "two read", net(nil, reads, reads))
	noNet(t, "two read a source", net(source, reads, reads))
	noNet(t, "two write", net(nil, writes, writes))
	noNet(t, "one writes to a source", net(source, writes))
	noNet(t, "two read, one of them writes", net(nil, both, reads))
	noNet(t, "two write, one of them reads", net(nil, both, writes))
	// An instruction that no step ever comes to counts too.
	noNet(t, "two read, one of them never", net(nil, reads, append([]api.Ins{in(api.Goto, 0, 0, 2)}, reads...)))
}

func TestP3NetIsNeitherWrittenNorKept(t *testing.T) {
	n, same := doubling(), doubling()
	n.Sources[0].Words = append(make([]int, 0, 9), n.Sources[0].Words...)
	r := race(t, n)
	steps(t, r, 0, 1)
	if !slices.Equal(n.Streams, same.Streams) || !slices.Equal(n.Sources[0].Words, same.Sources[0].Words) || !slices.Equal(n.Workers[0], same.Workers[0]) {
		t.Errorf("P2: New wrote into the net: %+v", n)
	}
	n.Streams[1] = 99
	n.Sources[0].Words[0], n.Sources[0].Words[1] = 70, 80
	n.Sources[0] = api.Source{Stream: 1}
	for i := range n.Workers[0] {
		n.Workers[0][i] = in(api.Goto, 0, 0, 0)
	}
	n.Workers[0] = nil
	steps(t, r, 0, 1, 1, 4)
	history(t, r, 0, 5)
	history(t, r, 1, 10)
	again := race(t, doubling())
	look(t, again, 0, api.Look{State: 1})
	history(t, again, 1)
}
