package model_test

import (
	"fmt"
	"math"
	"slices"
	"testing"

	"gleaner/api"
	. "gleaner/model"
	"gleaner/plan"
)

const a, b = `{a="1"}`, `{b="1"}`

func d(node, n int) api.Dot { return api.Dot{Node: node, N: n} }

func add(s string, at api.Dot, tick int) api.Fact {
	return api.Fact{Kind: api.FactAdd, Series: s, Dot: at, Tick: tick}
}

func gone(s string, at api.Dot, tick int) api.Fact {
	return api.Fact{Kind: api.FactGone, Series: s, Dot: at, Tick: tick}
}

func live(s string, at api.Dot, tick int) api.Live {
	return api.Live{Series: s, Dot: at, Tick: tick}
}

func TestP28_1Live(t *testing.T) {
	for i, x := range []struct {
		l    []api.Fact
		want []api.Live
	}{
		{nil, nil}, {[]api.Fact{add(a, d(0, 1), 3), add(a, d(1, 1), 4), gone(a, d(0, 1), 3)}, []api.Live{live(a, d(1, 1), 4)}}, {[]api.Fact{gone(b, d(0, 1), 9), add(a, d(0, 1), 3)}, nil},
		{[]api.Fact{add(b, d(2, 1), 1), add(a, d(0, 7), 2), add(a, d(0, 2), 3)}, []api.Live{live(a, d(0, 2), 3), live(a, d(0, 7), 2), live(b, d(2, 1), 1)}}, {[]api.Fact{add(b, d(2, 1), 1), add(a, d(2, 1), 2)}, []api.Live{live(b, d(2, 1), 1)}},
		{[]api.Fact{add(b, d(16, 1), 1), add(b, d(0, 0), 1), {Kind: api.FactAnswer, Dot: d(1, 1)}, {Kind: 9, Dot: d(1, 1)}}, nil},
	} {
		if got := Live(x.l); !slices.Equal(got, x.want) {
			t.Error(i, got)
		}
	}
}

func TestP28_2And3And4SeriesExpectOld(t *testing.T) {
	l := []api.Live{live(b, d(0, 1), 3), live(a, d(0, 2), 5), live(b, d(0, 3), 7), live("x", d(0, 4), -2)}
	if got := Series(l); !slices.Equal(got, []string{"x", a, b}) {
		t.Error(got)
	}
	if got := Expect(l, []api.Matcher{{Kind: api.MatchEq, Name: "a", Value: "1"}}); !slices.Equal(got, []string{a}) {
		t.Error(got)
	}
	if got := Expect(l, nil); !slices.Equal(got, []string{a, b}) {
		t.Error(got)
	}
	for before, want := range map[int][]string{math.MinInt: nil, -2: nil, -1: {"x"}, 5: {"x"}, 6: {"x", a}, 7: {"x", a}, 8: {"x", a, b}, math.MaxInt: {"x", a, b}} {
		if got := Old(l, before); !slices.Equal(got, want) {
			t.Error(before, got)
		}
	}
}

func TestP28_5Dots(t *testing.T) {
	for _, l := range [][]api.Fact{nil, {add(a, d(0, 1), 3), gone(a, d(0, 1), 3)}, {add(a, d(0, 1), 3), add(a, d(0, 2), 3), gone(a, d(0, 1), 3), gone(a, d(0, 1), 3)}, {{Kind: api.FactAnswer, Dot: d(99, 0)}, {Kind: 7}}} {
		if !Dots(l) {
			t.Error(l)
		}
	}
	for _, l := range [][]api.Fact{
		{add(a, d(0, 0), 3)}, {add(a, d(16, 1), 3)}, {add(a, d(0, 1), 3), add(b, d(0, 1), 4)}, {gone(a, d(0, 1), 3)}, {gone(a, d(0, 1), 3), add(a, d(0, 1), 3)}, {add(a, d(0, 1), 3), gone(b, d(0, 1), 3)}, {add(a, d(0, 1), 3), gone(a, d(0, 1), 4)}, {add(a, d(0, 1), 3), gone(a, d(0, 2), 3)},
		{add(a, d(0, 1), 3), gone(a, d(0, 1), 3), add(a, d(0, 1), 3)}, {gone(a, d(0, -1), 3)},
	} {
		if Dots(l) {
			t.Error(l)
		}
	}
}

// facts are adds and removes by a rule.
func facts() []api.Fact {
	var l []api.Fact
	for i := range 30 {
		l = append(l, add(fmt.Sprintf(`{a="%d",b="%d"}`, i%5, i%3), d(i%4, i/4+1), i))
		if k := i * 7 % 31; k < i && i%2 == 0 {
			l = append(l, gone(l[k].Series, l[k].Dot, l[k].Tick))
		}
	}
	return l
}

func TestP28_6AnyOrder(t *testing.T) {
	l := facts()
	want := Live(l)
	for step := 1; step < 60; step++ {
		for step%len(l) == 0 || gcd(step, len(l)) > 1 {
			step++
		}
		var turned []api.Fact
		for i := range l {
			turned = append(turned, l[i*step%len(l)])
		}
		if got := Live(turned); !slices.Equal(got, want) {
			t.Fatal(step)
		}
	}
	for _, f := range l {
		if f.Kind != api.FactAdd {
			continue
		}
		removed := slices.ContainsFunc(l, func(g api.Fact) bool { return g.Kind == api.FactGone && g.Dot == f.Dot })
		if slices.Contains(want, live(f.Series, f.Dot, f.Tick)) == removed {
			t.Error(f)
		}
	}
}

func gcd(a, b int) int {
	for b > 0 {
		a, b = b, a%b
	}
	return a
}

func TestP28_7MoreMatchers(t *testing.T) {
	l := Live(facts())
	m := []api.Matcher{{Kind: api.MatchRx, Name: "a", Value: "[1-3]"}, {Kind: api.MatchNot, Name: "b", Value: "1"}, {Kind: api.MatchNrx, Name: "a", Value: "2"}}
	for i := range m {
		fewer := Expect(l, m[:i])
		if got := Expect(l, m[:i+1]); !slices.Equal(got, plan.Choose(fewer, m[:i+1])) || len(got) == 0 || len(got) > len(fewer) {
			t.Error(i, got)
		}
	}
}
