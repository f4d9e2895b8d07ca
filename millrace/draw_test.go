package millrace_test

import (
	"slices"

	"millrace/api"
)

// dice: numbers that are the same in every run of the tests.
type dice uint64

func (d *dice) roll(sides int) int {
	*d = *d*6364136223846793005 + 1442695040888963407
	return int(uint64(*d)>>33) % sides
}

// drawNet: some net. A stream's reader and writer are drawn first, so that the programs keep to them.
func drawNet(d *dice) api.Net {
	n := api.Net{Workers: make([][]api.Ins, 1+d.roll(4))}
	reads, writes := make([][]int, len(n.Workers)), make([][]int, len(n.Workers))
	for s := range 1 + d.roll(8) {
		n.Streams = append(n.Streams, 1+d.roll(3))
		if w := d.roll(len(n.Workers) + 1); w < len(n.Workers) {
			reads[w] = append(reads[w], s)
		}
		if w := d.roll(len(n.Workers) + 2); w < len(n.Workers) {
			writes[w] = append(writes[w], s)
		} else if w == len(n.Workers) {
			n.Sources = append(n.Sources, api.Source{Stream: s, Words: drawWords(d)})
		}
	}
	for w := range n.Workers {
		size := 1 + d.roll(12)
		for range size {
			n.Workers[w] = append(n.Workers[w], drawIns(d, size, reads[w], writes[w]))
		}
	}
	return n
}

func drawWords(d *dice) []int {
	words := make([]int, d.roll(6))
	for i := range words {
		words[i] = d.roll(9) - 4
	}
	return words
}

func drawIns(d *dice, size int, reads, writes []int) api.Ins {
	op := []int{api.Read, api.Read, api.Read, api.Write, api.Write, api.Write, api.Set, api.Add, api.Sub, api.Mul, api.Less, api.If, api.Goto}[d.roll(13)]
	switch {
	case op == api.Read && len(reads) > 0:
		return in(op, d.roll(4), reads[d.roll(len(reads))], d.roll(size+1))
	case op == api.Write && len(writes) > 0:
		return in(op, d.roll(4), writes[d.roll(len(writes))], 0)
	case op <= api.Set:
		return in(api.Set, d.roll(4), 0, d.roll(9)-4)
	case op == api.If:
		return in(op, d.roll(4), 0, d.roll(size+1))
	case op == api.Goto:
		return in(op, 0, 0, d.roll(size+1))
	}
	return in(op, d.roll(4), d.roll(4), d.roll(4))
}

// drawBusy: some net whose workers write several words at once ahead of reading, so that room goes short.
func drawBusy(d *dice) api.Net {
	n := api.Net{Workers: make([][]api.Ins, 1+d.roll(4))}
	reads, writes := make([][]int, len(n.Workers)), make([][]int, len(n.Workers))
	for s := range 1 + d.roll(6) {
		n.Streams = append(n.Streams, 1)
		reader, writer := d.roll(len(n.Workers)), d.roll(len(n.Workers))
		reads[reader] = append(reads[reader], s)
		if d.roll(6) == 0 {
			n.Sources = append(n.Sources, api.Source{Stream: s, Words: drawWords(d)})
		} else {
			writes[writer] = append(writes[writer], s)
		}
	}
	for w := range n.Workers {
		n.Workers[w] = drawBursts(d, reads[w], writes[w])
	}
	return n
}

// drawBursts: words that differ, written in a row, and then others read in a row, some times or for ever.
func drawBursts(d *dice, reads, writes []int) []api.Ins {
	code := []api.Ins{in(api.Set, 0, 0, 1+d.roll(9)), in(api.Set, 1, 0, d.roll(9))}
	for range 1 + d.roll(4) {
		if len(writes) > 0 {
			i := in(api.Write, 0, writes[d.roll(len(writes))], 0)
			code = append(code, slices.Repeat([]api.Ins{i, in(api.Add, 0, 0, 1)}, 1+d.roll(3))...)
		}
		if len(reads) > 0 {
			i := in(api.Read, d.roll(2), reads[d.roll(len(reads))], d.roll(len(code)))
			code = append(code, slices.Repeat([]api.Ins{i}, 1+d.roll(3))...)
		}
	}
	code = code[:min(len(code), api.MaxCode-1)]
	return append(code, in(api.Goto, 0, 0, (len(code)+1)*d.roll(2)))
}

// draw: some net, of either kind.
func draw(d *dice) api.Net {
	if d.roll(3) == 0 {
		return drawNet(d)
	}
	return drawBusy(d)
}
