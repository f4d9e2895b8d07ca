package states

import (
	"bytes"
	"errors"
	"math"
	"slices"
	"testing"
)

func TestAppend(t *testing.T) {
	for _, c := range []struct {
		number int
		want   []byte
	}{
		{0, []byte{0, 0, 0, 0, 0, 0, 0, 0}},
		{1, []byte{0, 0, 0, 0, 0, 0, 0, 1}},
		{0x0102030405060708, []byte{1, 2, 3, 4, 5, 6, 7, 8}},
		{-1, []byte{255, 255, 255, 255, 255, 255, 255, 255}},
		{-2, []byte{255, 255, 255, 255, 255, 255, 255, 254}},
		{-256, []byte{255, 255, 255, 255, 255, 255, 255, 0}},
		{math.MaxInt, []byte{127, 255, 255, 255, 255, 255, 255, 255}},
		{math.MinInt, []byte{128, 0, 0, 0, 0, 0, 0, 0}},
	} {
		if got := Append(nil, c.number); !bytes.Equal(got, c.want) {
			t.Errorf("Append(%d) = %v, want %v", c.number, got, c.want)
		}
		back := 0
		if !Read(c.want, func(r *Reader) { back = r.Number() }) || back != c.number {
			t.Errorf("%v was read as %d, want %d", c.want, back, c.number)
		}
	}
	if got := Append(Append([]byte{9}, 1, 2)); !bytes.Equal(got, []byte{9, 0, 0, 0, 0, 0, 0, 0, 1, 0, 0, 0, 0, 0, 0, 0, 2}) {
		t.Errorf("Append of several = %v", got)
	}
}

func TestReadIsWhole(t *testing.T) {
	state := Append(nil, 5, -6)
	both := func(r *Reader) { r.Numbers(2) }
	for _, c := range []struct {
		what  string
		state []byte
		take  func(*Reader)
		want  bool
	}{
		{"all of it", state, both, true},
		{"nothing of nothing", nil, func(*Reader) {}, true},
		{"a byte missing", state[:15], both, false},
		{"a number missing", state[:8], both, false},
		{"all missing", nil, both, false},
		{"a byte left over", append(slices.Clone(state), 0), both, false},
		{"a number left over", state, func(r *Reader) { r.Number() }, false},
	} {
		if got := Read(c.state, c.take); got != c.want {
			t.Errorf("%s: %v", c.what, got)
		}
	}
}

func TestWithin(t *testing.T) {
	for _, c := range []struct {
		number, least, most int
		want                bool
	}{
		{3, 3, 5, true}, {5, 3, 5, true}, {2, 3, 5, false}, {6, 3, 5, false}, {-1, 0, 5, false}, {0, 0, 0, true},
		{math.MinInt, 0, 5, false}, {math.MaxInt, 0, 5, false},
	} {
		back := 0
		got := Read(Append(nil, c.number), func(r *Reader) { back = r.Within(c.least, c.most) })
		if got != c.want || got && back != c.number {
			t.Errorf("%d within %d and %d: %d, %v", c.number, c.least, c.most, back, got)
		}
	}
}

func TestCountAndNumbers(t *testing.T) {
	for _, c := range []struct {
		count int
		words []int
		want  bool
	}{
		{0, nil, true}, {2, []int{7, -8}, true}, {3, []int{7, -8}, false}, {1, nil, false}, {1, []int{7, -8}, false},
		{-1, nil, false}, {-1, []int{7}, false}, {math.MaxInt, []int{7}, false}, {math.MinInt, []int{7}, false}, {1 << 61, nil, false}, {1 << 61, []int{7}, false},
	} {
		var back []int
		got := Read(append(Append(nil, c.count), Append(nil, c.words...)...), func(r *Reader) { back = r.Numbers(r.Count()) })
		if got != c.want || got && !slices.Equal(back, c.words) {
			t.Errorf("%d of %v: %v, %v", c.count, c.words, back, got)
		}
	}
	if Read(append(Append(nil, 1), 1, 2, 3, 4, 5, 6, 7), func(r *Reader) { r.Count(); t.Error("counted a number that is not whole") }) {
		t.Error("read a number that is not whole")
	}
}

// What is not a matter of the state goes on as the panic that it is.
func TestAnotherPanic(t *testing.T) {
	other := errors.New("another one")
	defer func() {
		if given := recover(); given != other {
			t.Errorf("recovered %v", given)
		}
	}()
	Read(nil, func(*Reader) { panic(other) })
	t.Error("the panic was hidden")
}

func TestStateIsNotWrittenInto(t *testing.T) {
	behind := append(Append(nil, 1, 2), 9, 9)
	before := slices.Clone(behind)
	Read(behind[:16], func(r *Reader) { clear(r.Numbers(2)) })
	if !bytes.Equal(behind, before) {
		t.Errorf("%v, before %v", behind, before)
	}
}
