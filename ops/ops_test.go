package ops

import (
	"math"
	"testing"

	"millrace/api"
)

func TestOpsAreThoseOfTheAPI(t *testing.T) {
	pairs := [][2]int{
		{Read, api.Read}, {Write, api.Write}, {Set, api.Set}, {Add, api.Add}, {Sub, api.Sub},
		{Mul, api.Mul}, {Less, api.Less}, {If, api.If}, {Goto, api.Goto},
	}
	for i, pair := range pairs {
		if pair[0] != i+1 || pair[1] != i+1 {
			t.Errorf("op %d is %d here and %d there", i+1, pair[0], pair[1])
		}
	}
	if Registers != len(api.Look{}.Registers) {
		t.Errorf("%d registers", Registers)
	}
}

// A program of 5 instructions in a net of 3 streams: of each op the greatest A, B and C.
var greatest = map[int][3]int{
	api.Read:  {3, 2, 5},
	api.Write: {3, 2, 0},
	api.Set:   {3, 0, math.MaxInt},
	api.Add:   {3, 3, 3},
	api.Sub:   {3, 3, 3},
	api.Mul:   {3, 3, 3},
	api.Less:  {3, 3, 3},
	api.If:    {3, 0, 5},
	api.Goto:  {0, 0, 5},
}

func valid(op int, abc [3]int) bool {
	return Valid(api.Ins{Op: op, A: abc[0], B: abc[1], C: abc[2]}, 5, 3)
}

func TestEachOperand(t *testing.T) {
	for op, most := range greatest {
		if !valid(op, most) || !valid(op, [3]int{}) {
			t.Errorf("op %d: the greatest or the least operands are refused", op)
		}
		for k := range most {
			for _, wrong := range []int{most[k] + 1, -1, math.MaxInt, math.MinInt} {
				for _, abc := range [][3]int{{}, most} {
					abc[k] = wrong
					anyWord := op == api.Set && k == 2
					if valid(op, abc) != anyWord {
						t.Errorf("op %d with %v: %v", op, abc, !anyWord)
					}
				}
			}
		}
	}
}

func TestNoSuchOp(t *testing.T) {
	for _, op := range []int{math.MinInt, -1, 0, 10, math.MaxInt} {
		if valid(op, [3]int{}) {
			t.Errorf("op %d is taken", op)
		}
	}
}
