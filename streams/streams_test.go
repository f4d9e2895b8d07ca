package streams

import (
	"slices"
	"testing"
)

func take(t *testing.T, s *Stream, word, what int) {
	t.Helper()
	if got, came := s.Take(); got != word || came != what {
		t.Errorf("Take = %d, %d, want %d, %d", got, came, word, what)
	}
}

func put(t *testing.T, s *Stream, word int, want bool) {
	t.Helper()
	if got := s.Put(word); got != want {
		t.Errorf("Put(%d) = %v", word, got)
	}
}

func tells(t *testing.T, s *Stream, waiting, full bool, room, words int, history ...int) {
	t.Helper()
	if s.Waiting() != waiting || s.Full() != full {
		t.Errorf("Waiting, Full = %v, %v", s.Waiting(), s.Full())
	}
	if a, b := s.Room(); a != room || b != words {
		t.Errorf("Room = %d, %d, want %d, %d", a, b, room, words)
	}
	if got := s.History(); !slices.Equal(got, history) {
		t.Errorf("History = %v, want %v", got, history)
	}
}

func TestSource(t *testing.T) {
	words := []int{5, 6}
	s := FromSource(words)
	words[1] = 9
	tells(t, s, false, false, 0, 0)
	take(t, s, 5, Came)
	tells(t, s, false, false, 0, 0, 5)
	take(t, s, 6, Came)
	take(t, s, 0, Ended)
	take(t, s, 0, Ended)
	tells(t, s, false, false, 0, 0, 5, 6)
}

func TestSourceOfNothing(t *testing.T) {
	s := FromSource(nil)
	tells(t, s, false, false, 0, 0)
	take(t, s, 0, Ended)
}

func TestRoom(t *testing.T) {
	s := WithRoom(2)
	tells(t, s, true, false, 2, 0)
	take(t, s, 0, Empty)
	put(t, s, 7, true)
	tells(t, s, false, false, 2, 1, 7)
	put(t, s, 8, true)
	put(t, s, 9, false)
	tells(t, s, false, true, 2, 2, 7, 8)
	take(t, s, 7, Came)
	put(t, s, 9, true)
	tells(t, s, false, true, 2, 2, 7, 8, 9)
	take(t, s, 8, Came)
	take(t, s, 9, Came)
	take(t, s, 0, Empty)
	tells(t, s, true, false, 2, 0, 7, 8, 9)
}

func TestGrow(t *testing.T) {
	s := WithRoom(1)
	put(t, s, 7, true)
	take(t, s, 7, Came)
	s.Grow()
	tells(t, s, true, false, 2, 0, 7)
	take(t, s, 0, Empty)
	history := []int{7}
	for size := 2; size < 40; size++ {
		for len(history) <= size {
			history = append(history, 7+len(history))
			put(t, s, history[len(history)-1], true)
		}
		put(t, s, 99, false)
		tells(t, s, false, true, size, size, history...)
		s.Grow()
		tells(t, s, false, false, size+1, size, history...)
	}
	for _, word := range history[1:] {
		take(t, s, word, Came)
	}
	take(t, s, 0, Empty)
	tells(t, s, true, false, 40, 0, history...)
}

// What is in a stream stays in its order also where more was read and written already.
func TestGrowBetween(t *testing.T) {
	s := WithRoom(3)
	for i := range 3 {
		put(t, s, i, true)
	}
	take(t, s, 0, Came)
	put(t, s, 3, true)
	s.Grow()
	put(t, s, 4, true)
	put(t, s, 5, false)
	tells(t, s, false, true, 4, 4, 0, 1, 2, 3, 4)
	for i := range 4 {
		take(t, s, i+1, Came)
	}
	take(t, s, 0, Empty)
}

func TestUnread(t *testing.T) {
	s := Unread()
	var all []int
	for i := range 1000 {
		put(t, s, i, true)
		all = append(all, i)
	}
	tells(t, s, true, false, 0, 0, all...)
}

func TestHistoryIsTheCallers(t *testing.T) {
	read, unread, source := WithRoom(6), Unread(), FromSource([]int{0, 1, 2, 3, 4})
	for i := range 3 {
		read.Put(i)
		unread.Put(i)
		source.Take()
	}
	for _, s := range []*Stream{read, unread, source} {
		list := s.History()
		for i := range list[:cap(list)] {
			list[:cap(list)][i] = 99
		}
		if got := s.History(); !slices.Equal(got, []int{0, 1, 2}) {
			t.Errorf("History = %v", got)
		}
	}
	take(t, source, 3, Came)
	put(t, unread, 3, true)
	if got := unread.History(); !slices.Equal(got, []int{0, 1, 2, 3}) {
		t.Errorf("History = %v", got)
	}
}
