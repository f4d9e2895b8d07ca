package streams

import (
	"bytes"
	"math"
	"slices"
	"testing"

	"millrace/states"
)

func take(t *testing.T, s *Stream, word, what int) {
	t.Helper()
	if got, came := s.Take(); got != word || came != what {
		t.Errorf("Take = %d, %d, want %d, %d", got, came, word, what)
	}
}

func put(t *testing.T, s *Stream, word int, want bool) {
	t.Helper()
	if got := s.Put(word); got != want {
		t.Errorf("Put(%d) = %v", word, got)
	}
}

func tells(t *testing.T, s *Stream, waiting, full bool, room, words int, history ...int) {
	t.Helper()
	if s.Waiting() != waiting || s.Full() != full {
		t.Errorf("Waiting, Full = %v, %v", s.Waiting(), s.Full())
	}
	if a, b := s.Room(); a != room || b != words {
		t.Errorf("Room = %d, %d, want %d, %d", a, b, room, words)
	}
	if got := s.History(); !slices.Equal(got, history) {
		t.Errorf("History = %v, want %v", got, history)
	}
}

func TestSource(t *testing.T) {
	words := []int{5, 6}
	s := FromSource(words)
	words[1] = 9
	tells(t, s, false, false, 0, 0)
	take(t, s, 5, Came)
	tells(t, s, false, false, 0, 0, 5)
	take(t, s, 6, Came)
	take(t, s, 0, Ended)
	take(t, s, 0, Ended)
	tells(t, s, false, false, 0, 0, 5, 6)
}

func TestSourceOfNothing(t *testing.T) {
	s := FromSource(nil)
	tells(t, s, false, false, 0, 0)
	take(t, s, 0, Ended)
}

func TestRoom(t *testing.T) {
	s := WithRoom(2)
	tells(t, s, true, false, 2, 0)
	take(t, s, 0, Empty)
	put(t, s, 7, true)
	tells(t, s, false, false, 2, 1, 7)
	put(t, s, 8, true)
	put(t, s, 9, false)
	tells(t, s, false, true, 2, 2, 7, 8)
	take(t, s, 7, Came)
	put(t, s, 9, true)
	tells(t, s, false, true, 2, 2, 7, 8, 9)
	take(t, s, 8, Came)
	take(t, s, 9, Came)
	take(t, s, 0, Empty)
	tells(t, s, true, false, 2, 0, 7, 8, 9)
}

func TestGrow(t *testing.T) {
	s := WithRoom(1)
	put(t, s, 7, true)
	take(t, s, 7, Came)
	s.Grow()
	tells(t, s, true, false, 2, 0, 7)
	take(t, s, 0, Empty)
	history := []int{7}
	for size := 2; size < 40; size++ {
		for len(history) <= size {
			history = append(history, 7+len(history))
			put(t, s, history[len(history)-1], true)
		}
		put(t, s, 99, false)
		tells(t, s, false, true, size, size, history...)
		s.Grow()
		tells(t, s, false, false, size+1, size, history...)
	}
	for _, word := range history[1:] {
		take(t, s, word, Came)
	}
	take(t, s, 0, Empty)
	tells(t, s, true, false, 40, 0, history...)
}

// What is in a stream stays in its order also where more was read and written already.
func TestGrowBetween(t *testing.T) {
	s := WithRoom(3)
	for i := range 3 {
		put(t, s, i, true)
	}
	take(t, s, 0, Came)
	put(t, s, 3, true)
	s.Grow()
	put(t, s, 4, true)
	put(t, s, 5, false)
	tells(t, s, false, true, 4, 4, 0, 1, 2, 3, 4)
	for i := range 4 {
		take(t, s, i+1, Came)
	}
	take(t, s, 0, Empty)
}

func TestUnread(t *testing.T) {
	s := Unread(1)
	var all []int
	for i := range 1000 {
		put(t, s, i, true)
		all = append(all, i)
	}
	tells(t, s, true, false, 0, 0, all...)
}

func TestHistoryIsTheCallers(t *testing.T) {
	read, unread, source := WithRoom(6), Unread(1), FromSource([]int{0, 1, 2, 3, 4})
	for i := range 3 {
		read.Put(i)
		unread.Put(i)
		source.Take()
	}
	for _, s := range []*Stream{read, unread, source} {
		list := s.History()
		for i := range list[:cap(list)] {
			list[:cap(list)][i] = 99
		}
		if got := s.History(); !slices.Equal(got, []int{0, 1, 2}) {
			t.Errorf("History = %v", got)
		}
	}
	take(t, source, 3, Came)
	put(t, unread, 3, true)
	if got := unread.History(); !slices.Equal(got, []int{0, 1, 2, 3}) {
		t.Errorf("History = %v", got)
	}
}

func saved(t *testing.T, s *Stream, want ...int) {
	t.Helper()
	if got := s.Save([]byte{9}); !bytes.Equal(got, states.Append([]byte{9}, want...)) {
		t.Errorf("Save = %v, want %v", got, want)
	}
}

// loads: the stream takes the numbers, and tells them again.
func loads(t *testing.T, s *Stream, numbers ...int) {
	t.Helper()
	if !states.Read(states.Append(nil, numbers...), s.Load) {
		t.Fatalf("Load of %v gave up", numbers)
	}
	saved(t, s, numbers...)
}

func givesUp(t *testing.T, s *Stream, numbers ...int) {
	t.Helper()
	if states.Read(states.Append(nil, numbers...), s.Load) {
		t.Errorf("took %v", numbers)
	}
}

func TestStateOfASource(t *testing.T) {
	source := func() *Stream { return FromSource([]int{5, 6}) }
	s := source()
	saved(t, s, 0)
	s.Take()
	saved(t, s, 1)
	s = source()
	loads(t, s, 1)
	tells(t, s, false, false, 0, 0, 5)
	take(t, s, 6, Came)
	saved(t, s, 2)
	s = source()
	loads(t, s, 2)
	take(t, s, 0, Ended)
	loads(t, source(), 0)
	for _, read := range []int{-1, 3, math.MinInt, math.MaxInt} {
		givesUp(t, source(), read)
	}
	givesUp(t, source())
	givesUp(t, FromSource(nil), 1)
}

func TestStateWithRoom(t *testing.T) {
	s := WithRoom(2)
	saved(t, s, 2, 0, 0)
	for word := range 3 {
		s.Put(-word)
	}
	s.Take()
	s.Grow()
	saved(t, s, 3, 1, 2, 0, -1)
	s = WithRoom(2)
	loads(t, s, 3, 1, 4, 5, 6, -7, 8)
	tells(t, s, false, true, 3, 3, 5, 6, -7, 8)
	put(t, s, 9, false)
	take(t, s, 6, Came)
	put(t, s, 9, true)
	saved(t, s, 3, 2, 5, 5, 6, -7, 8, 9)
	s.Grow()
	for _, word := range []int{-7, 8, 9} {
		take(t, s, word, Came)
	}
	take(t, s, 0, Empty)
	s = WithRoom(2)
	loads(t, s, 40, 2, 2, 5, 6)
	tells(t, s, true, false, 40, 0, 5, 6)
	loads(t, WithRoom(2), 2, 0, 0)
}

func TestNoStateWithRoom(t *testing.T) {
	for _, numbers := range [][]int{
		{1, 0, 0}, {0, 0, 0}, {-1, 0, 0}, {41, 0, 0}, {math.MaxInt, 0, 0}, {math.MinInt, 0, 0},
		{2, 1, 0}, {2, 2, 1, 5}, {2, -1, 0}, {2, -1, -1}, {2, math.MinInt, 0}, {2, math.MaxInt, 0}, {2, math.MaxInt, math.MaxInt},
		{2, math.MaxInt, math.MinInt}, {2, 1 << 61, 1 << 61}, {2, 0, -1}, {2, 0, math.MinInt}, {2, 0, math.MaxInt}, {2, 0, 1 << 61},
		{2, 0, 3, 5, 6, 7}, {2, 1, 4, 5, 6, 7, 8}, {2, 0, 1}, {2, 0, 0, 5}, {2, 1, 1}, {2, 0}, {2}, {},
	} {
		givesUp(t, WithRoom(2), numbers...)
	}
}

func TestStateOfOneUnread(t *testing.T) {
	s := Unread(3)
	saved(t, s, 3, 0, 0)
	for word := range 5 {
		s.Put(word - 2)
	}
	saved(t, s, 3, 0, 5, -2, -1, 0, 1, 2)
	s = Unread(3)
	loads(t, s, 3, 0, 5, -2, -1, 0, 1, 2)
	tells(t, s, true, false, 0, 0, -2, -1, 0, 1, 2)
	put(t, s, 3, true)
	saved(t, s, 3, 0, 6, -2, -1, 0, 1, 2, 3)
	loads(t, Unread(3), 3, 0, 0)
	for _, numbers := range [][]int{
		{2, 0, 0}, {4, 0, 0}, {0, 0, 0}, {-3, 0, 0}, {3, 1, 1, 5}, {3, -1, 0}, {3, 1, 0}, {3, 0, -1}, {3, 0, math.MaxInt}, {3, 0, math.MinInt},
		{3, 0, 1 << 61}, {3, 0, 1}, {3, 0, 0, 5}, {3, 0}, {3}, {},
	} {
		givesUp(t, Unread(3), numbers...)
	}
}
