package cursor_test

import (
	"math"
	"reflect"
	"slices"
	"testing"

	"gleaner/api"
	. "gleaner/cursor"
	"gleaner/posting"
)

func kids(l ...api.Cursor) []api.Cursor { return l }

// nested has deep cursors within one another.
func nested(deep int) api.Cursor {
	c := List([]int{1, 2})
	for range deep - 1 {
		c = Any(kids(c))
	}
	return c
}

// wrong are cursors that are not right.
func wrong() []api.Cursor {
	good := List([]int{1})
	return []api.Cursor{
		{}, {Kind: 5, List: []int{1}}, {Kind: -1}, {Kind: api.CurList, Kids: kids(good)}, {Kind: api.CurList, At: 1}, {Kind: api.CurList, At: -1}, {Kind: api.CurList, List: []int{1}, At: math.MaxInt},
		List([]int{2, 1}), List([]int{-1}), List([]int{math.MaxInt}), List(make([]int, 4001)),
		{Kind: api.CurBoth, List: []int{1}}, {Kind: api.CurAny, At: 1}, {Kind: api.CurMinus}, {Kind: api.CurAny, Kids: slices.Repeat(kids(good), 21)}, Both(kids(good, api.Cursor{})), nested(9),
	}
}

// mixed are right cursors of lists of small numbers.
func mixed() []api.Cursor {
	a, b, c := List([]int{1, 2, 5}), List([]int{2, 5, 9}), List([]int{0, 5, api.MaxInt})
	late := api.Cursor{Kind: api.CurList, List: []int{0, 1, 2, 9}, At: 2}
	l := kids(a, b, late, List(nil), Both(nil), Any(nil), Both(kids(a, b)), Any(kids(a, b, c)), Minus(a, kids(b)), Minus(a, nil), Minus(c, kids(late, b)), Both(kids(Any(kids(a, b)), Any(kids(c, b)))))
	return append(l, Any(kids(Minus(b, kids(c)), Both(kids(late, b, Any(kids(a, b)))))), Minus(Any(kids(a, c)), kids(Both(kids(a, c)), late)), Any(kids(Both(nil), a)))
}

// numbers is what chapter 6 says of a cursor's lists.
func numbers(c api.Cursor) []int {
	var l [][]int
	for _, k := range c.Kids {
		l = append(l, numbers(k))
	}
	switch c.Kind {
	case api.CurList:
		return c.List[c.At:]
	case api.CurBoth:
		return posting.All(l)
	case api.CurAny:
		return posting.Merge(l)
	}
	return posting.Minus(l[0], posting.Merge(l[1:]))
}

func TestP7_1Make(t *testing.T) {
	a, b := List([]int{1, 2}), List([]int{2})
	for _, c := range []struct{ got, want api.Cursor }{
		{a, api.Cursor{Kind: 1, List: []int{1, 2}}}, {Both(kids(a, b)), api.Cursor{Kind: 2, Kids: kids(a, b)}}, {Any(kids(b)), api.Cursor{Kind: 3, Kids: kids(b)}},
		{Minus(a, kids(b, a)), api.Cursor{Kind: 4, Kids: kids(a, b, a)}}, {Minus(a, nil), api.Cursor{Kind: 4, Kids: kids(a)}},
	} {
		if !reflect.DeepEqual(c.got, c.want) {
			t.Error(c.got, c.want)
		}
	}
	in := []int{1, 2}
	c := Both(kids(List(in), api.Cursor{Kind: 1, List: in}))
	in[0] = 7
	if c.Kids[0].List[0] != 1 || c.Kids[1].List[0] != 1 {
		t.Error("a list is shared", c)
	}
}

func TestP7_2Right(t *testing.T) {
	long := make([]int, 4000)
	for i := range long {
		long[i] = i
	}
	for _, c := range append(mixed(), nested(8), List(long), Any(slices.Repeat(kids(List(nil)), 20)), api.Cursor{Kind: api.CurList, List: []int{1}, At: 1}) {
		if !Right(c) {
			t.Error(c)
		}
	}
	for _, c := range wrong() {
		if Right(c) {
			t.Error(c)
		}
	}
}

func TestP7_3Now(t *testing.T) {
	for _, c := range mixed() {
		n, ok := Now(c)
		want := numbers(c)
		if ok != (len(want) > 0) || ok && n != want[0] || !ok && n != 0 {
			t.Error(c, n, ok)
		}
	}
	for _, c := range wrong() {
		if n, ok := Now(c); n != 0 || ok {
			t.Error(c, n, ok)
		}
	}
}

func TestP7_4SeekAndStep(t *testing.T) {
	c := Minus(List([]int{1, 4, 6, 8}), kids(List([]int{2, 6, 7})))
	d := Seek(c, 5)
	if d.Kids[0].At != 2 || d.Kids[1].At != 1 || c.Kids[0].At != 0 {
		t.Error(c, d)
	}
	if e := Seek(d, 2); !reflect.DeepEqual(e, d) {
		t.Error("sought back", e)
	}
	if e := Step(c); e.Kids[0].At != 1 || e.Kids[1].At != 0 {
		t.Error(e)
	}
	if e := Seek(c, math.MaxInt); e.Kids[0].At != 4 || !reflect.DeepEqual(Step(e), e) {
		t.Error(e)
	}
	if e := Seek(c, math.MinInt); !reflect.DeepEqual(e, c) {
		t.Error(e)
	}
	for _, w := range wrong() {
		if !reflect.DeepEqual(Seek(w, 3), w) || !reflect.DeepEqual(Step(w), w) {
			t.Error(w)
		}
	}
}

func TestP7_5All(t *testing.T) {
	for _, c := range wrong() {
		if l := All(c); l != nil {
			t.Error(c, l)
		}
	}
	if l := All(Both(kids(List([]int{1, 2, 5}), List([]int{2, 5, 9})))); !slices.Equal(l, []int{2, 5}) {
		t.Error(l)
	}
}

func TestP7_6StepByStep(t *testing.T) {
	for _, c := range mixed() {
		want := All(c)
		var got []int
		for n, ok := Now(c); ok; n, ok = Now(c) {
			got = append(got, n)
			c = Step(c)
		}
		if !slices.Equal(got, want) {
			t.Error(c, got, want)
		}
	}
}

func TestP7_7ListsPutTogether(t *testing.T) {
	for _, c := range mixed() {
		if !slices.Equal(All(c), numbers(c)) {
			t.Error(c, All(c), numbers(c))
		}
	}
}

func TestP7_8AnyOrder(t *testing.T) {
	for _, c := range mixed() {
		all := All(c)
		for n := -1; n < 12; n++ {
			i := slices.IndexFunc(all, func(x int) bool { return x >= n })
			got, ok := Now(Seek(c, n))
			if ok != (i >= 0) || ok && got != all[i] {
				t.Error(c, n, got, ok)
			}
			for m := -1; m < 12; m++ {
				if x := Seek(Seek(c, n), m); !slices.Equal(All(x), All(Seek(c, max(m, n)))) || !reflect.DeepEqual(x, Seek(Seek(c, m), n)) {
					t.Fatal(c, n, m)
				}
			}
		}
	}
}

func TestP7_1KidsAsTheyAre(t *testing.T) {
	odd := api.Cursor{Kind: api.CurList, List: []int{-9, -3, 4}}
	for _, c := range []api.Cursor{Both(kids(odd)), Any(kids(odd)), Minus(odd, nil)} {
		if !reflect.DeepEqual(c.Kids[0], odd) {
			t.Error(c)
		}
	}
}
