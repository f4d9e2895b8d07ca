package millrace_test

import (
	"slices"
	"testing"

	"millrace/api"
	"millrace/millrace"
)

// model: the document's words put down in the plainest way: histories, and how much of each was read.
type model struct {
	net    api.Net
	rooms  []int
	looks  []api.Look
	flowed [][]int
	read   []int
}

func newModel(n api.Net) *model {
	return &model{n, slices.Clone(n.Streams), make([]api.Look, len(n.Workers)), make([][]int, len(n.Streams)), make([]int, len(n.Streams))}
}

func (m *model) source(stream int) *api.Source {
	for i := range m.net.Sources {
		if m.net.Sources[i].Stream == stream {
			return &m.net.Sources[i]
		}
	}
	return nil
}

func (m *model) isRead(stream int) bool {
	for _, code := range m.net.Workers {
		for _, i := range code {
			if i.Op == api.Read && i.B == stream {
				return true
			}
		}
	}
	return false
}

func (m *model) history(stream int) []int {
	if source := m.source(stream); source != nil {
		return source.Words[:m.read[stream]]
	}
	return m.flowed[stream]
}

func (m *model) room(stream int) (int, int) {
	if m.source(stream) != nil || !m.isRead(stream) {
		return 0, 0
	}
	return m.rooms[stream], len(m.flowed[stream]) - m.read[stream]
}

func (m *model) state(worker int) int {
	code, place := m.net.Workers[worker], m.looks[worker].Place
	if place == len(code) {
		return 4
	}
	i := code[place]
	if i.Op == api.Read && m.source(i.B) == nil && m.read[i.B] == len(m.flowed[i.B]) {
		return 2
	}
	if i.Op == api.Write && m.isRead(i.B) && len(m.flowed[i.B])-m.read[i.B] == m.rooms[i.B] {
		return 3
	}
	return 1
}

func (m *model) step(worker int) int {
	if state := m.state(worker); state != 1 {
		return state
	}
	w := &m.looks[worker]
	i := m.net.Workers[worker][w.Place]
	w.Steps++
	w.Place++
	r := &w.Registers
	switch i.Op {
	case api.Read:
		words := m.flowed[i.B]
		if source := m.source(i.B); source != nil {
			words = source.Words
		}
		if m.read[i.B] == len(words) {
			w.Place = i.C
			break
		}
		r[i.A] = words[m.read[i.B]]
		m.read[i.B]++
	case api.Write:
		m.flowed[i.B] = append(m.flowed[i.B], r[i.A])
	case api.Set:
		r[i.A] = i.C
	case api.Add:
		r[i.A] = r[i.B] + r[i.C]
	case api.Sub:
		r[i.A] = r[i.B] - r[i.C]
	case api.Mul:
		r[i.A] = r[i.B] * r[i.C]
	case api.Less:
		less := 0
		if r[i.B] < r[i.C] {
			less = 1
		}
		r[i.A] = less
	case api.If:
		if r[i.A] != 0 {
			w.Place = i.C
		}
	case api.Goto:
		w.Place = i.C
	}
	return 1
}

func (m *model) grow() (int, api.Errno) {
	least := -1
	for w, seen := range m.looks {
		switch m.state(w) {
		case 1:
			return 0, api.ErrState
		case 3:
			s := m.net.Workers[w][seen.Place].B
			if least < 0 || m.rooms[s] < m.rooms[least] || m.rooms[s] == m.rooms[least] && s < least {
				least = s
			}
		}
	}
	if least < 0 {
		return 0, api.ErrState
	}
	if m.rooms[least] == 40 {
		return 0, api.ErrCap
	}
	m.rooms[least]++
	return least, api.OK
}

func (m *model) flow(most int) (int, api.Errno) {
	done := 0
again:
	for done < most {
		for w := range m.looks {
			if m.state(w) == 1 {
				m.step(w)
				done++
				continue again
			}
		}
		if _, errno := m.grow(); errno != api.OK {
			return done, errno
		}
	}
	return done, api.OK
}

func (m *model) save() []byte {
	var numbers []int
	for _, seen := range m.looks {
		numbers = append(numbers, seen.Place)
		numbers = append(numbers, seen.Registers[:]...)
		numbers = append(numbers, seen.Steps)
	}
	for s, words := range m.flowed {
		if m.source(s) != nil {
			numbers = append(numbers, m.read[s])
			continue
		}
		numbers = append(numbers, m.rooms[s], m.read[s], len(words))
		numbers = append(numbers, words...)
	}
	return state(numbers...)
}

// agrees: a race tells all that the model tells.
func (m *model) agrees(t *testing.T, r *millrace.Race) {
	t.Helper()
	for w, want := range m.looks {
		want.State = m.state(w)
		look(t, r, w, want)
	}
	for s := range m.net.Streams {
		history(t, r, s, m.history(s)...)
		size, words := m.room(s)
		room(t, r, s, size, words)
	}
}

func TestAsTheModel(t *testing.T) {
	d := dice(1)
	var came [5]int
	for range 600 {
		n := drawNet(&d)
		r, m := race(t, n), newModel(n)
		m.agrees(t, r)
		for range 120 {
			w := d.roll(len(n.Workers))
			want := m.step(w)
			came[want]++
			if what, errno := r.Step(w); what != want || errno != api.OK {
				t.Fatalf("P4: Step(%d) = %d, %d, want %d, in %+v", w, what, errno, want, n)
			}
			m.agrees(t, r)
		}
		if t.Failed() {
			t.Fatalf("in the net %+v", n)
		}
	}
	for what, times := range came[1:] {
		if times < 500 {
			t.Errorf("only %d steps came to %d", times, what+1)
		}
	}
}

// Steps with Grow and Flow between them, in nets that are short of room.
func TestGrowAndFlowAsTheModel(t *testing.T) {
	d := dice(2)
	var grew, flowed [5]int
	for range 1000 {
		n := draw(&d)
		r, m := race(t, n), newModel(n)
		for range 60 {
			switch d.roll(8) {
			case 0:
				stream, errno := m.grow()
				grew[errno]++
				grow(t, r, stream, errno)
			case 1:
				most := d.roll(12)
				done, errno := m.flow(most)
				flow(t, r, most, done, errno)
			default:
				w := d.roll(len(n.Workers))
				want := m.step(w)
				if what, errno := r.Step(w); what != want || errno != api.OK {
					t.Fatalf("P4: Step(%d) = %d, %d, want %d, in %+v", w, what, errno, want, n)
				}
			}
			m.agrees(t, r)
		}
		done, errno := m.flow(1000)
		flowed[errno]++
		flow(t, r, 1000, done, errno)
		m.agrees(t, r)
		stream, errno := m.grow()
		grew[errno]++
		grow(t, r, stream, errno)
		m.agrees(t, r)
		if t.Failed() {
			t.Fatalf("in the net %+v", n)
		}
	}
	for _, errno := range []api.Errno{api.OK, api.ErrState, api.ErrCap} {
		if grew[errno] < 100 || flowed[errno] < 100 {
			t.Errorf("only %d times Grow and %d times Flow came to %d", grew[errno], flowed[errno], errno)
		}
	}
}
