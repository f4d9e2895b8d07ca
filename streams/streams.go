// Package streams: what words flow along, from a worker or a source to a worker or to nobody.
package streams

import (
	"millrace/api"
	"millrace/states"
)

// What comes of taking a word from a stream.
const (
	Came  = iota // there was one
	Empty        // there is none yet
	Ended        // there is none any more
)

// Stream of words. Who is at its ends is the net's concern: nobody puts words into one with a source,
// and nobody takes words from one that Unread made.
type Stream struct {
	sourced bool
	words   []int    // of a source: all of its words; else all that were ever put in
	given   int      // of a source: how many of its words were taken
	held    chan int // what was put in and not taken yet; nil where there is a source or nobody reads
	unused  int      // where nobody reads: the net's room, which only a state tells of
}

// FromSource makes a stream that gives out the words of a source.
func FromSource(words []int) *Stream {
	return &Stream{sourced: true, words: append([]int(nil), words...)}
}

// WithRoom makes a stream that a worker reads.
func WithRoom(room int) *Stream {
	return &Stream{held: make(chan int, room)}
}

// Unread makes a stream that takes all, for nobody reads it, whatever its room.
func Unread(room int) *Stream {
	return &Stream{unused: room}
}

// Take the first word, if there is one; the second result is Came, Empty or Ended.
func (s *Stream) Take() (int, int) {
	if s.sourced {
		return s.give()
	}
	select {
	case word := <-s.held:
		return word, Came
	default:
		return 0, Empty
	}
}

func (s *Stream) give() (int, int) {
	if s.given == len(s.words) {
		return 0, Ended
	}
	word := s.words[s.given]
	s.given++
	return word, Came
}

// Put a word at the end, if there is room for it.
func (s *Stream) Put(word int) bool {
	if s.held == nil {
		s.words = append(s.words, word)
		return true
	}
	select {
	case s.held <- word:
		s.words = append(s.words, word)
		return true
	default:
		return false
	}
}

// Waiting tells if Take would answer Empty.
func (s *Stream) Waiting() bool {
	return !s.sourced && len(s.held) == 0
}

// Full tells if Put would find no room.
func (s *Stream) Full() bool {
	return s.held != nil && len(s.held) == cap(s.held)
}

// Grow gives one more room to a stream that a worker reads: no other has any.
func (s *Stream) Grow() {
	wider := make(chan int, cap(s.held)+1)
	close(s.held)
	for word := range s.held {
		wider <- word
	}
	s.held = wider
}

// History: all words that were ever put in; of a source, those that were taken.
func (s *Stream) History() []int {
	if s.sourced {
		return append([]int(nil), s.words[:s.given]...)
	}
	return append([]int(nil), s.words...)
}

// Room and how many words are in it; none where there is a source or nobody reads.
func (s *Stream) Room() (int, int) {
	return cap(s.held), len(s.held)
}

// Save the stream behind a state.
func (s *Stream) Save(state []byte) []byte {
	if s.sourced {
		return states.Append(state, s.given)
	}
	room, read := s.unused, 0
	if s.held != nil {
		room, read = cap(s.held), len(s.words)-len(s.held)
	}
	state = states.Append(state, room, read, len(s.words))
	return states.Append(state, s.words...)
}

// Load into a stream that is as the net made it.
func (s *Stream) Load(from *states.Reader) {
	switch {
	case s.sourced:
		s.given = from.Within(0, len(s.words))
	case s.held == nil:
		s.loadUnread(from)
	default:
		s.loadHeld(from)
	}
}

func (s *Stream) loadUnread(from *states.Reader) {
	from.Within(s.unused, s.unused)
	from.Within(0, 0)
	s.words = from.Numbers(from.Count())
}

func (s *Stream) loadHeld(from *states.Reader) {
	room := from.Within(cap(s.held), api.MaxGrown)
	read := from.Count() // what was read was written, and so comes behind
	written := from.Within(read, read+room)
	s.words = from.Numbers(written)
	s.held = make(chan int, room)
	for _, word := range s.words[read:] {
		s.held <- word
	}
}
