// Package states: the numbers of a state, as bytes and back.
package states

import "errors"

// size of a number, in bytes.
const size = 8

// errNoState is what a Reader gives up with.
var errNoState = errors.New("no state")

// Append numbers to a state, the highest byte of each first.
func Append(state []byte, numbers ...int) []byte {
	for _, number := range numbers {
		for shift := 8 * (size - 1); shift >= 0; shift -= 8 {
			state = append(state, byte(uint64(number)>>shift))
		}
	}
	return state
}

// Reader of a state. Its methods give up by a panic, so that whoever reads need not ask after each number
// if there was one; Read recovers it.
type Reader struct {
	left []byte
}

// Read lets take have the numbers of a state; it tells if they were all that take asked for and nothing else.
func Read(state []byte, take func(*Reader)) (whole bool) {
	defer func() {
		// Any other panic is no matter of the state: it would be hidden here.
		if given := recover(); given != nil && given != errNoState {
			panic(given)
		}
	}()
	r := &Reader{left: state}
	take(r)
	r.end()
	return true
}

// Number: the next one, whatever it is.
func (r *Reader) Number() int {
	if len(r.left) < size {
		panic(errNoState)
	}
	var number uint64
	for _, part := range r.left[:size] {
		number = number<<8 | uint64(part)
	}
	r.left = r.left[size:]
	return int(number)
}

// Within: the next number, which must be neither below least nor above most.
func (r *Reader) Within(least, most int) int {
	number := r.Number()
	if number < least || number > most {
		panic(errNoState)
	}
	return number
}

// Count: the next number, which must be a number of things that could still come behind it, a number each.
// So it may be added to, and memory may be asked for by it.
func (r *Reader) Count() int {
	number := r.Number()
	if number < 0 || number > len(r.left)/size {
		panic(errNoState)
	}
	return number
}

// Numbers: the next so many, in new memory.
func (r *Reader) Numbers(count int) []int {
	var numbers []int
	for range count {
		numbers = append(numbers, r.Number())
	}
	return numbers
}

func (r *Reader) end() {
	if len(r.left) > 0 {
		panic(errNoState)
	}
}
