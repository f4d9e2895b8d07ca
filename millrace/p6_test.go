package millrace_test

import (
	"math"
	"testing"

	"millrace/api"
)

// untilTheEnd: the net of example 2.
func untilTheEnd() api.Net {
	n := doubling()
	n.Workers[0] = append(n.Workers[0], in(api.Goto, 0, 0, 0))
	n.Workers[0][0].C = 4
	return n
}

func TestP6Example2(t *testing.T) {
	n := untilTheEnd()
	r := race(t, n)
	flow(t, r, 100, 9, api.ErrState)
	history(t, r, 1, 10, 12)
	look(t, r, 0, api.Look{Place: 4, Registers: [4]int{12}, Steps: 9, State: 4})
	unchanged(t, r, n, func() { flow(t, r, 100, 0, api.ErrState) })
}

func TestP6Example3(t *testing.T) {
	r := race(t, crossed(1, 1))
	flow(t, r, 100, 6, api.ErrState)
	history(t, r, 0, 0, 0)
	history(t, r, 1, 0)
	room(t, r, 0, 2, 0)
	room(t, r, 1, 1, 0)
}

func TestP6Example4(t *testing.T) {
	n := api.Net{Streams: []int{1}, Workers: [][]api.Ins{{in(api.Read, 0, 0, 0)}}}
	r := race(t, n)
	unchanged(t, r, n, func() { flow(t, r, 100, 0, api.ErrState) })
}

// It ends with the last of them, and asks whether anybody can go on only if one more is due.
func TestP6Most(t *testing.T) {
	n := untilTheEnd()
	for most := range 10 {
		r := race(t, n)
		flow(t, r, most, most, api.OK)
		look(t, r, 0, api.Look{
			Place:     []int{0, 1, 2, 3, 0, 1, 2, 3, 0, 4}[most],
			Registers: [4]int{[]int{0, 5, 10, 10, 10, 6, 12, 12, 12, 12}[most]},
			Steps:     most,
			State:     []int{1, 1, 1, 1, 1, 1, 1, 1, 1, 4}[most],
		})
		unchanged(t, r, n, func() { flow(t, r, 0, 0, api.OK) })
		flow(t, r, 10, 9-most, api.ErrState)
	}
}

// Nothing is to grow for a step that is not due.
func TestP6NoRoomTooEarly(t *testing.T) {
	n := crossed(1, 1)
	r := race(t, n)
	flow(t, r, 1, 1, api.OK)
	unchanged(t, r, n, func() { flow(t, r, 0, 0, api.OK) })
	room(t, r, 0, 1, 1)
	flow(t, r, 1, 1, api.OK)
	room(t, r, 0, 2, 2)
	flow(t, r, 4, 4, api.OK)
	flow(t, r, 1, 0, api.ErrState)
}

func TestP6WrongNumbers(t *testing.T) {
	n := crossed(1, 1)
	r := race(t, n)
	for range 3 {
		for _, most := range []int{-1, -100, math.MinInt, 100001, 100002, 1 << 32, math.MaxInt} {
			unchanged(t, r, n, func() { flow(t, r, most, 0, api.ErrArg) })
		}
		r.Run(0, 0, 1) // also where room is missing
	}
	flow(t, r, 100, 5, api.ErrState)
	flow(t, r, -1, 0, api.ErrArg)
}

func TestP6MaxFlow(t *testing.T) {
	n := api.Net{Streams: []int{1}, Workers: [][]api.Ins{{in(api.Goto, 0, 0, 0)}, idle(1)}}
	r := race(t, n)
	flow(t, r, 99999, 99999, api.OK)
	flow(t, r, 100000, 100000, api.OK)
	look(t, r, 0, api.Look{Steps: 199999, State: 1})
	look(t, r, 1, api.Look{State: 1})
	unchanged(t, r, n, func() { flow(t, r, 100001, 0, api.ErrArg) })
}

// Whoever is first by number goes on, and again, as long as he can; not the one who went last, nor by turns.
func TestP6TheFirstGoesOn(t *testing.T) {
	r := race(t, passing(2))
	flow(t, r, 8, 8, api.OK)
	look(t, r, 0, api.Look{Place: 2, Registers: [4]int{3, 1}, Steps: 8, State: 3})
	look(t, r, 1, api.Look{State: 1})
	flow(t, r, 1, 1, api.OK)
	look(t, r, 1, api.Look{Place: 1, Registers: [4]int{2: 1}, Steps: 1, State: 1})
	flow(t, r, 3, 3, api.OK)
	look(t, r, 0, api.Look{Place: 2, Registers: [4]int{4, 1}, Steps: 11, State: 3})
	look(t, r, 1, api.Look{Place: 1, Registers: [4]int{2: 1}, Steps: 1, State: 1})
	flow(t, r, 100000, 100000, api.OK)
	room(t, r, 0, 2, 2) // somebody could go on all the time
}

// A worker that waits to read ahead of one that waits to write, and behind it.
func TestP6WaitingForEachOther(t *testing.T) {
	for first := range 2 {
		n := crossed(1, 1)
		if first == 1 {
			n.Workers[0], n.Workers[1] = n.Workers[1], n.Workers[0]
		}
		r := race(t, n)
		steps(t, r, first, 1, 3)
		steps(t, r, 1-first, 2)
		flow(t, r, 5, 5, api.OK)
		flow(t, r, 1, 0, api.ErrState)
		room(t, r, 0, 2, 0)
		steps(t, r, 0, 4)
		steps(t, r, 1, 4)
	}
}

// Till no stream may grow: what was done stays, and what has grown.
func TestP6NoMoreRoom(t *testing.T) {
	for size := 1; size <= 6; size++ {
		n := piling([]int{size, 6, 3}, 0, 2)
		r := race(t, n)
		// each writer sets once, and adds, writes and goes back 40 times, and adds a 41st word
		flow(t, r, 100000, 2*(1+3*40+1), api.ErrCap)
		room(t, r, 0, 40, 40)
		room(t, r, 1, 0, 0)
		room(t, r, 2, 40, 40)
		history(t, r, 0, upTo(40)...)
		history(t, r, 2, upTo(40)...)
		for _, most := range []int{1, 100000} {
			unchanged(t, r, n, func() { flow(t, r, most, 0, api.ErrCap) })
		}
		unchanged(t, r, n, func() { flow(t, r, 0, 0, api.OK) })
		unchanged(t, r, n, func() { grow(t, r, 0, api.ErrCap) })
	}
}

// Of the same net: 40 words pass, one more does not.
func TestP6JustEnoughRoom(t *testing.T) {
	for limit := 1; limit <= 42; limit++ {
		r := race(t, hoarding(limit, 2, 1, 1))
		if limit <= 40 {
			flow(t, r, 100000, 2+4*limit+1+1+3*limit, api.ErrState)
			history(t, r, 2, upTo(limit)...)
			room(t, r, 0, max(2, limit), 0)
			continue
		}
		flow(t, r, 100000, 2+4*40+1, api.ErrCap)
		history(t, r, 0, upTo(40)...)
		history(t, r, 2)
		room(t, r, 0, 40, 40)
	}
}

// A worker that writes a stream that it reads itself gets the room that it needs.
func TestP6OwnStream(t *testing.T) {
	var code []api.Ins
	for i := range 6 {
		code = append(code, in(api.Set, 0, 0, i), in(api.Write, 0, 0, 0))
	}
	for range 7 {
		code = append(code, in(api.Read, 1, 0, 0))
	}
	r := race(t, api.Net{Streams: []int{2}, Workers: [][]api.Ins{code}})
	flow(t, r, 11, 11, api.OK)
	room(t, r, 0, 5, 5)
	flow(t, r, 100, 7, api.ErrState)
	room(t, r, 0, 6, 0)
	look(t, r, 0, api.Look{Place: 18, Registers: [4]int{5, 5}, Steps: 18, State: 2})

	r = race(t, api.Net{Streams: []int{1}, Workers: [][]api.Ins{{in(api.Write, 0, 0, 0), in(api.Goto, 0, 0, 0), in(api.Read, 0, 0, 0)}}})
	flow(t, r, 1000, 80, api.ErrCap)
	room(t, r, 0, 40, 40)
}

// Flow is as many Flows of one instruction each.
func TestP6InPieces(t *testing.T) {
	n := hoarding(30, 1, 1, 1)
	whole, pieces := race(t, n), race(t, n)
	for total := range 2 + 4*30 + 1 + 1 + 3*30 {
		flow(t, pieces, 1, 1, api.OK)
		whole = race(t, n)
		flow(t, whole, total+1, total+1, api.OK)
		same(t, "P6", tell(whole, n), tell(pieces, n))
	}
	flow(t, pieces, 1, 0, api.ErrState)
	flow(t, whole, 1, 0, api.ErrState)
	same(t, "P6", tell(whole, n), tell(pieces, n))
}
