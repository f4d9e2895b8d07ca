// Package ops: the ops of instructions, and what an instruction may be.
package ops

import "millrace/api"

// The ops, in the order of their numbers; they are those of package api.
const (
	Read = iota + 1
	Write
	Set
	Add
	Sub
	Mul
	Less
	If
	Goto
)

// Registers: how many a worker has.
const Registers = 4

// operand: what A, B or C of an instruction must be.
type operand int

const (
	zero operand = iota
	register
	stream
	place
	word
)

// Valid tells if i may stand in a program of so many instructions, in a net of so many streams.
func Valid(i api.Ins, instructions, streams int) bool {
	if i.Op < Read || i.Op > Goto {
		return false
	}
	a, b, c := operands(i.Op)
	return fits(i.A, a, instructions, streams) &&
		fits(i.B, b, instructions, streams) &&
		fits(i.C, c, instructions, streams)
}

// operands: what A, B and C of an op must be.
func operands(op int) (a, b, c operand) {
	switch op {
	case Read:
		return register, stream, place
	case Write:
		return register, stream, zero
	case Set:
		return register, zero, word
	case Add, Sub, Mul, Less:
		return register, register, register
	case If:
		return register, zero, place
	case Goto:
		return zero, zero, place
	}
	return zero, zero, zero
}

func fits(number int, o operand, instructions, streams int) bool {
	switch o {
	case register:
		return number >= 0 && number < Registers
	case stream:
		return number >= 0 && number < streams
	case place:
		// The place behind the last instruction counts too: a worker is done there.
		return number >= 0 && number <= instructions
	case word:
		return true
	}
	return number == 0
}
