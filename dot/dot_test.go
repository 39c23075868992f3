package dot_test

import (
	"math"
	"reflect"
	"slices"
	"testing"

	"gleaner/api"
	. "gleaner/dot"
)

// dots makes dots of nodes and numbers by turns.
func dots(l ...int) []api.Dot {
	var out []api.Dot
	for i := 0; i+1 < len(l); i += 2 {
		out = append(out, api.Dot{Node: l[i], N: l[i+1]})
	}
	return out
}

func context(vector, cloud []api.Dot) api.Context {
	return api.Context{Vector: vector, Cloud: cloud}
}

// wrong are contexts that are not right.
func wrong() []api.Context {
	return []api.Context{
		context(dots(1, 1, 0, 1), nil), context(dots(1, 1, 1, 2), nil), context(dots(0, 0), nil), context(dots(16, 1), nil), context(dots(-1, 1), nil), context(dots(0, api.MaxInt+1), nil),
		context(nil, dots(0, 1)), context(dots(0, 4), dots(0, 5)), context(dots(0, 4), dots(0, 3)), context(nil, dots(1, 3, 0, 3)), context(nil, dots(0, 3, 0, 3)), context(nil, dots(16, 3)),
		context(nil, dots(math.MinInt, 3)), context(nil, dots(0, math.MinInt)), context(dots(math.MaxInt, math.MaxInt), nil),
	}
}

// some are lists of dots, each bit of i one of six dots.
func some(i int) []api.Dot {
	var out []api.Dot
	for k, d := range dots(0, 1, 0, 2, 0, 4, 3, 1, 3, 3, 3, 2) {
		if i>>k&1 == 1 {
			out = append(out, d)
		}
	}
	return out
}

func TestP3_1ValidAndLess(t *testing.T) {
	for _, d := range dots(0, 1, 15, api.MaxInt) {
		if !Valid(d) {
			t.Error(d)
		}
	}
	for _, d := range dots(-1, 1, 16, 1, 0, 0, 0, -1, 0, api.MaxInt+1) {
		if Valid(d) {
			t.Error(d)
		}
	}
	rising := dots(-1, 9, 0, 1, 0, 2, 1, 1)
	for i, a := range rising {
		for j, b := range rising {
			if Less(a, b) != (i < j) {
				t.Error(a, b)
			}
		}
	}
}

func TestP3_2Has(t *testing.T) {
	c := context(dots(0, 3, 0, 9, 2, 1), dots(2, 5, 7, 7, 0, 0))
	for _, d := range dots(0, 1, 0, 3, 2, 1, 2, 5, 7, 7) {
		if !Has(c, d) {
			t.Error(d)
		}
	}
	for _, d := range dots(0, 4, 0, 9, 2, 2, 2, 6, 1, 1, 0, 0, 0, -1, 16, 1, -1, 1) {
		if Has(c, d) {
			t.Error(d)
		}
	}
}

func TestP3_3Add(t *testing.T) {
	c := From(dots(0, 1, 0, 3, 0, 4, 1, 2))
	for _, x := range []struct {
		d    api.Dot
		want api.Context
	}{
		{api.Dot{Node: 0, N: 2}, context(dots(0, 4), dots(1, 2))},
		{api.Dot{Node: 0, N: 1}, c}, {api.Dot{Node: 0, N: 4}, c}, {api.Dot{Node: 0, N: 0}, c}, {api.Dot{Node: 16, N: 1}, c},
		{api.Dot{Node: 1, N: 1}, context(dots(0, 1, 1, 2), dots(0, 3, 0, 4))},
		{api.Dot{Node: 0, N: api.MaxInt}, context(dots(0, 1), dots(0, 3, 0, 4, 0, api.MaxInt, 1, 2))},
	} {
		if got := Add(c, x.d); !Same(got, x.want) {
			t.Error(x.d, got)
		}
	}
	for _, w := range wrong() {
		if !reflect.DeepEqual(Add(w, api.Dot{Node: 5, N: 1}), w) {
			t.Error(w)
		}
	}
}

func TestP3_4Join(t *testing.T) {
	a, b := From(dots(0, 1, 0, 2, 0, 5, 2, 4)), From(dots(0, 1, 0, 3, 0, 4, 1, 1, 2, 4))
	if got := Join(a, b); !Same(got, context(dots(0, 5, 1, 1), dots(2, 4))) {
		t.Error(got)
	}
	for _, w := range wrong() {
		if !reflect.DeepEqual(Join(w, a), w) || !reflect.DeepEqual(Join(a, w), a) {
			t.Error(w)
		}
	}
	room := append(make([]api.Dot, 0, 9), dots(3, 2)...)
	Join(api.Context{Cloud: room}, From(dots(4, 4)))
	Add(api.Context{Cloud: room}, api.Dot{Node: 4, N: 4})
	if room[:2][1] != (api.Dot{}) {
		t.Error("what lies behind a list was written")
	}
}

func TestP3_5Right(t *testing.T) {
	for _, c := range []api.Context{{}, context(dots(0, 1, 15, api.MaxInt), nil), context(nil, dots(0, 2)), context(dots(0, 4), dots(0, 6, 0, 7, 1, 2))} {
		if !Right(c) {
			t.Error(c)
		}
	}
	for _, c := range wrong() {
		if Right(c) {
			t.Error(c)
		}
	}
}

func TestP3_6Same(t *testing.T) {
	a := context(dots(0, 1), dots(0, 3))
	if !Same(a, context(dots(0, 1), dots(0, 3))) || !Same(api.Context{Vector: []api.Dot{}}, api.Context{}) {
		t.Error("not the same")
	}
	for _, b := range []api.Context{{}, context(dots(0, 1), nil), context(nil, dots(0, 3)), context(dots(0, 1), dots(0, 4)), context(dots(0, 2), dots(0, 3)), context(dots(0, 1, 1, 1), dots(0, 3))} {
		if Same(a, b) || Same(b, a) {
			t.Error(b)
		}
	}
}

func TestP3_7Under(t *testing.T) {
	for i := range 64 {
		for j := range 64 {
			if Under(From(some(i)), From(some(j))) != (i&^j == 0) {
				t.Error(some(i), some(j))
			}
		}
	}
	for _, w := range wrong() {
		if Under(w, w) || Under(api.Context{}, w) || Under(w, From(dots(0, 9))) {
			t.Error(w)
		}
	}
}

func TestP3_8From(t *testing.T) {
	if got := From(dots(0, 3, 0, 1, 16, 1, 0, 0, 0, 3, 2, 2)); !Same(got, context(dots(0, 1), dots(0, 3, 2, 2))) {
		t.Error(got)
	}
	if got := From(dots(1, 3, 1, 1, 1, 2)); !Same(got, context(dots(1, 3), nil)) {
		t.Error(got)
	}
	if got := From(nil); !Same(got, api.Context{}) {
		t.Error(got)
	}
}

func TestP3_9KnownIfOneKnew(t *testing.T) {
	for i := range 64 {
		for j := range 64 {
			a, b := From(some(i)), From(some(j))
			c := Join(a, b)
			for _, d := range dots(0, 1, 0, 2, 0, 3, 0, 4, 0, 5, 3, 1, 3, 2, 3, 3, 3, 4, 1, 1) {
				if Has(c, d) != (Has(a, d) || Has(b, d)) {
					t.Fatal(a, b, d)
				}
				if e := Add(a, d); !Has(e, d) || !Under(a, e) || !Under(e, Add(Join(a, b), d)) {
					t.Fatal(a, d)
				}
			}
		}
	}
}

func TestP3_10AnyOrder(t *testing.T) {
	for i := range 64 {
		a := From(some(i))
		for j := range 64 {
			b, c := From(some(j)), From(some(i*7%64))
			if !Same(Join(a, b), From(some(i|j))) || !Same(Join(a, b), Join(b, a)) || !Same(Join(a, a), a) || !Same(Join(Join(a, b), c), Join(a, Join(b, c))) {
				t.Fatal(a, b, c)
			}
		}
		turned := some(i)
		slices.Reverse(turned)
		var one api.Context
		for _, d := range turned {
			one = Add(one, d)
		}
		if !Same(one, a) || !Same(From(append(turned, turned...)), a) || !Right(a) {
			t.Fatal(one, a)
		}
	}
}

func TestP3_11NoGap(t *testing.T) {
	var l []api.Dot
	for n := 50; n > 0; n-- {
		l = append(l, api.Dot{Node: n % 3, N: (n + 2) / 3})
	}
	if c := From(l); len(c.Cloud) != 0 || len(c.Vector) != 3 || !Has(c, l[0]) {
		t.Error(c)
	}
}
