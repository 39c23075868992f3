package posting_test

import (
	"math"
	"slices"
	"testing"

	"gleaner/api"
	. "gleaner/posting"
)

// list has number k, spread far apart, for each bit k of i.
func list(i int) []int {
	var out []int
	for k, n := range []int{0, 1, 2, 7, 700, api.MaxInt} {
		if i>>k&1 == 1 {
			out = append(out, n)
		}
	}
	return out
}

func TestP6_1Right(t *testing.T) {
	for _, l := range [][]int{nil, {}, {0}, {0, 1, api.MaxInt}} {
		if !Right(l) {
			t.Error(l)
		}
	}
	for _, l := range [][]int{{-1}, {1, 1}, {2, 1}, {api.MaxInt + 1}, {math.MinInt}, {0, math.MaxInt}, {5, 6, 6}} {
		if Right(l) {
			t.Error(l)
		}
	}
}

func TestP6_2Has(t *testing.T) {
	for i := range 64 {
		for k := range 6 {
			if n := list(1 << k)[0]; Has(list(i), n) != (i>>k&1 == 1) || Has(list(i), n+3) {
				t.Error(list(i), n)
			}
		}
	}
}

func TestP6_3Two(t *testing.T) {
	for i := range 64 {
		for j := range 64 {
			a, b := list(i), list(j)
			if x := Both(a, b); !slices.Equal(x, list(i&j)) {
				t.Fatal("Both", a, b, x)
			}
			if x := Any(a, b); !slices.Equal(x, list(i|j)) {
				t.Fatal("Any", a, b, x)
			}
			if x := Minus(a, b); !slices.Equal(x, list(i&^j)) {
				t.Fatal("Minus", a, b, x)
			}
		}
	}
}

func TestP6_4Many(t *testing.T) {
	if All(nil) != nil || Merge(nil) != nil {
		t.Error("no list")
	}
	for i := range 64 {
		j, k := i*5%64, i*11%64
		l := [][]int{list(i), list(j), list(k)}
		if x := All(l); !slices.Equal(x, list(i&j&k)) {
			t.Error("All", l, x)
		}
		if x := Merge(l); !slices.Equal(x, list(i|j|k)) {
			t.Error("Merge", l, x)
		}
		if x, y := All(l[:1]), Merge(l[:1]); !slices.Equal(x, l[0]) || !slices.Equal(y, l[0]) {
			t.Error(l[0], x, y)
		}
	}
}

func TestP6_5Right(t *testing.T) {
	for i := range 64 {
		a, b := list(i), list(i*13%64)
		for _, x := range [][]int{Both(a, b), Any(a, b), Minus(a, b), All([][]int{a, b, a}), Merge([][]int{b, a, b})} {
			if !Right(x) {
				t.Error(a, b, x)
			}
		}
	}
}

func TestP6_6Laws(t *testing.T) {
	for i := range 64 {
		for j := range 64 {
			a, b, c := list(i), list(j), list((i*7+j*3)%64)
			for _, x := range [][2][]int{
				{Both(a, b), Both(b, a)}, {Any(a, b), Any(b, a)}, {Both(a, Both(b, c)), Both(Both(a, b), c)}, {Any(a, Any(b, c)), Any(Any(a, b), c)},
				{Both(a, Any(b, c)), Any(Both(a, b), Both(a, c))}, {Any(a, Both(b, c)), Both(Any(a, b), Any(a, c))},
				{Minus(Any(a, b), c), Any(Minus(a, c), Minus(b, c))}, {Minus(Both(a, b), c), Both(Minus(a, c), Minus(b, c))},
				{All([][]int{a, b, c}), All([][]int{c, a, b})}, {Merge([][]int{a, b, c}), Merge([][]int{c, b, a})},
			} {
				if !slices.Equal(x[0], x[1]) {
					t.Fatal(a, b, c, x)
				}
			}
		}
	}
}

func TestP6_7Counts(t *testing.T) {
	for i := range 64 {
		for j := range 64 {
			a, b := list(i), list(j)
			if len(a)+len(b) != len(Any(a, b))+len(Both(a, b)) {
				t.Fatal(a, b)
			}
		}
	}
}

func TestNewMemory(t *testing.T) {
	a, room := []int{1, 2, 5}, append(make([]int, 0, 9), 2, 7)
	for _, x := range [][]int{Both(a, a), Any(a, nil), Any(nil, a), Any(room, a), Minus(a, nil), All([][]int{a}), Merge([][]int{a}), Merge([][]int{room, a})} {
		for i := range x {
			x[i] = 99
		}
	}
	if !slices.Equal(a, []int{1, 2, 5}) || !slices.Equal(room[:4], []int{2, 7, 0, 0}) {
		t.Error(a, room[:4])
	}
}
