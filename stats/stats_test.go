package stats_test

import (
	"fmt"
	"math"
	"slices"
	"testing"

	"gleaner/api"
	"gleaner/index"
	. "gleaner/stats"
)

func build(t *testing.T, l ...string) api.Index {
	x := index.New()
	for _, s := range l {
		y, code := index.Add(x, s)
		if code != api.OK {
			t.Fatal(s, code)
		}
		x = y
	}
	return x
}

func some(i int) string {
	return []string{fmt.Sprintf(`{a="%d"}`, i%5), fmt.Sprintf(`{a="%d",b="%d"}`, i%3, i%2), fmt.Sprintf(`{b="a",c="%d"}`, i%4)}[i%3]
}

func TestP19_1OfAndTotal(t *testing.T) {
	x := build(t, `{b="x",c="1"}`, `{a="1"}`, `{a="1",b="x"}`, `{a="2",b="x"}`)
	want := []api.Count{{Name: "a", Values: 2, Series: 3}, {Name: "b", Values: 1, Series: 3}, {Name: "c", Values: 1, Series: 1}}
	if l := Of(x); !slices.Equal(l, want) || Total(x) != 4 {
		t.Error(l, Total(x))
	}
	if l := Of(index.New()); len(l) != 0 || Total(index.New()) != 0 {
		t.Error(l)
	}
}

func TestP19_2AddAndRemove(t *testing.T) {
	x := build(t, `{a="1"}`, `{a="1",b="x"}`)
	l := Of(x)
	for s, want := range map[string][]api.Count{
		`{a="2",aa="1"}`: {{Name: "a", Values: 2, Series: 3}, {Name: "aa", Values: 1, Series: 1}, {Name: "b", Values: 1, Series: 1}}, `{b="x"}`: {{Name: "a", Values: 1, Series: 2}, {Name: "b", Values: 1, Series: 2}},
		`{a="1"}`: l, "": l, `{b="1",a="1"}`: l,
	} {
		if got := Add(l, x, s); !Same(got, want) {
			t.Error("Add", s, got)
		}
	}
	for s, want := range map[string][]api.Count{`{a="1"}`: {{Name: "a", Values: 1, Series: 1}, {Name: "b", Values: 1, Series: 1}}, `{a="1",b="x"}`: {{Name: "a", Values: 1, Series: 1}}, `{b="x"}`: l, "x": l} {
		if got := Remove(l, x, s); !Same(got, want) {
			t.Error("Remove", s, got)
		}
	}
	if !Same(l, Of(x)) {
		t.Error("changed", l)
	}
	// Counts that are not those of x: nothing is promised, but that the call ends.
	Remove(nil, x, `{a="1"}`)
	Add([]api.Count{{Name: "z"}, {Name: "a"}}, x, `{b="9"}`)
}

func TestP19_3Most(t *testing.T) {
	l := []api.Count{{Name: "b", Series: 1}, {Name: "a", Series: 1}, {Name: "c", Series: 5}, {Name: "d", Values: 9}}
	all := []api.Count{l[2], l[1], l[0], l[3]}
	for n, count := range map[int]int{0: 0, 1: 1, 3: 3, 4: 4, 5: 4, -1: 0, math.MaxInt: 4, math.MinInt: 0} {
		if got := Most(l, n); !slices.Equal(got, all[:count]) {
			t.Error(n, got)
		}
	}
}

func TestP19_4Same(t *testing.T) {
	a := []api.Count{{Name: "a", Values: 1, Series: 2}}
	if !Same(a, slices.Clone(a)) || !Same(nil, []api.Count{}) {
		t.Error("not the same")
	}
	for _, b := range [][]api.Count{nil, {{Name: "b", Values: 1, Series: 2}}, {{Name: "a", Values: 2, Series: 2}}, {{Name: "a", Values: 1, Series: 1}}, {a[0], a[0]}} {
		if Same(a, b) || Same(b, a) {
			t.Error(b)
		}
	}
}

func TestP19_5And6Kept(t *testing.T) {
	x := index.New()
	var l []api.Count
	for i := range 300 {
		s := some(i * 7)
		if i%4 == 3 {
			l = Remove(l, x, s)
			x, _ = index.Remove(x, s)
		} else {
			l = Add(l, x, s)
			x, _ = index.Add(x, s)
		}
		if !Same(l, Of(x)) {
			t.Fatal(i, s, l, Of(x))
		}
		for _, c := range l {
			if c.Values > c.Series || c.Series > Total(x) || c.Values < 1 {
				t.Fatal(c)
			}
		}
	}
}
