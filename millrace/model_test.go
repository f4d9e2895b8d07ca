package millrace_test

import (
	"testing"

	"millrace/api"
	"millrace/millrace"
)

// dice: numbers that are the same in every run of the tests.
type dice uint64

func (d *dice) roll(sides int) int {
	*d = *d*6364136223846793005 + 1442695040888963407
	return int(uint64(*d)>>33) % sides
}

// drawNet: some net. A stream's reader and writer are drawn first, so that the programs keep to them.
func drawNet(d *dice) api.Net {
	n := api.Net{Workers: make([][]api.Ins, 1+d.roll(4))}
	reads, writes := make([][]int, len(n.Workers)), make([][]int, len(n.Workers))
	for s := range 1 + d.roll(8) {
		n.Streams = append(n.Streams, 1+d.roll(3))
		if w := d.roll(len(n.Workers) + 1); w < len(n.Workers) {
			reads[w] = append(reads[w], s)
		}
		if w := d.roll(len(n.Workers) + 2); w < len(n.Workers) {
			writes[w] = append(writes[w], s)
		} else if w == len(n.Workers) {
			n.Sources = append(n.Sources, api.Source{Stream: s, Words: drawWords(d)})
		}
	}
	for w := range n.Workers {
		size := 1 + d.roll(12)
		for range size {
			n.Workers[w] = append(n.Workers[w], drawIns(d, size, reads[w], writes[w]))
		}
	}
	return n
}

func drawWords(d *dice) []int {
	words := make([]int, d.roll(6))
	for i := range words {
		words[i] = d.roll(9) - 4
	}
	return words
}

func drawIns(d *dice, size int, reads, writes []int) api.Ins {
	op := []int{api.Read, api.Read, api.Read, api.Write, api.Write, api.Write, api.Set, api.Add, api.Sub, api.Mul, api.Less, api.If, api.Goto}[d.roll(13)]
	switch {
	case op == api.Read && len(reads) > 0:
		return in(op, d.roll(4), reads[d.roll(len(reads))], d.roll(size+1))
	case op == api.Write && len(writes) > 0:
		return in(op, d.roll(4), writes[d.roll(len(writes))], 0)
	case op <= api.Set:
		return in(api.Set, d.roll(4), 0, d.roll(9)-4)
	case op == api.If:
		return in(op, d.roll(4), 0, d.roll(size+1))
	case op == api.Goto:
		return in(op, 0, 0, d.roll(size+1))
	}
	return in(op, d.roll(4), d.roll(4), d.roll(4))
}

// model: the document's words put down in the plainest way: histories, and how much of each was read.
type model struct {
	net    api.Net
	looks  []api.Look
	flowed [][]int
	read   []int
}

func newModel(n api.Net) *model {
	return &model{n, make([]api.Look, len(n.Workers)), make([][]int, len(n.Streams)), make([]int, len(n.Streams))}
}

func (m *model) source(stream int) *api.Source {
	for i := range m.net.Sources {
		if m.net.Sources[i].Stream == stream {
			return &m.net.Sources[i]
		}
	}
	return nil
}

func (m *model) isRead(stream int) bool {
	for _, code := range m.net.Workers {
		for _, i := range code {
			if i.Op == api.Read && i.B == stream {
				return true
			}
		}
	}
	return false
}

func (m *model) history(stream int) []int {
	if source := m.source(stream); source != nil {
		return source.Words[:m.read[stream]]
	}
	return m.flowed[stream]
}

func (m *model) room(stream int) (int, int) {
	if m.source(stream) != nil || !m.isRead(stream) {
		return 0, 0
	}
	return m.net.Streams[stream], len(m.flowed[stream]) - m.read[stream]
}

func (m *model) state(worker int) int {
	code, place := m.net.Workers[worker], m.looks[worker].Place
	if place == len(code) {
		return 4
	}
	i := code[place]
	if i.Op == api.Read && m.source(i.B) == nil && m.read[i.B] == len(m.flowed[i.B]) {
		return 2
	}
	if i.Op == api.Write && m.isRead(i.B) && len(m.flowed[i.B])-m.read[i.B] == m.net.Streams[i.B] {
		return 3
	}
	return 1
}

func (m *model) step(worker int) int {
	if state := m.state(worker); state != 1 {
		return state
	}
	w := &m.looks[worker]
	i := m.net.Workers[worker][w.Place]
	w.Steps++
	w.Place++
	r := &w.Registers
	switch i.Op {
	case api.Read:
		words := m.flowed[i.B]
		if source := m.source(i.B); source != nil {
			words = source.Words
		}
		if m.read[i.B] == len(words) {
			w.Place = i.C
			break
		}
		r[i.A] = words[m.read[i.B]]
		m.read[i.B]++
	case api.Write:
		m.flowed[i.B] = append(m.flowed[i.B], r[i.A])
	case api.Set:
		r[i.A] = i.C
	case api.Add:
		r[i.A] = r[i.B] + r[i.C]
	case api.Sub:
		r[i.A] = r[i.B] - r[i.C]
	case api.Mul:
		r[i.A] = r[i.B] * r[i.C]
	case api.Less:
		less := 0
		if r[i.B] < r[i.C] {
			less = 1
		}
		r[i.A] = less
	case api.If:
		if r[i.A] != 0 {
			w.Place = i.C
		}
	case api.Goto:
		w.Place = i.C
	}
	return 1
}

// agrees: a race tells all that the model tells.
func (m *model) agrees(t *testing.T, r *millrace.Race) {
	t.Helper()
	for w, want := range m.looks {
		want.State = m.state(w)
		look(t, r, w, want)
	}
	for s := range m.net.Streams {
		history(t, r, s, m.history(s)...)
		size, words := m.room(s)
		room(t, r, s, size, words)
	}
}

func TestAsTheModel(t *testing.T) {
	d := dice(1)
	var came [5]int
	for range 600 {
		n := drawNet(&d)
		r, m := race(t, n), newModel(n)
		m.agrees(t, r)
		for range 120 {
			w := d.roll(len(n.Workers))
			want := m.step(w)
			came[want]++
			if what, errno := r.Step(w); what != want || errno != api.OK {
				t.Fatalf("P4: Step(%d) = %d, %d, want %d, in %+v", w, what, errno, want, n)
			}
			m.agrees(t, r)
		}
		if t.Failed() {
			t.Fatalf("in the net %+v", n)
		}
	}
	for what, times := range came[1:] {
		if times < 500 {
			t.Errorf("only %d steps came to %d", times, what+1)
		}
	}
}
