package plan_test

import (
	"fmt"
	"slices"
	"testing"

	"gleaner/api"
	"gleaner/label"
	"gleaner/matcher"
	"gleaner/orset"
	"gleaner/place"
	. "gleaner/plan"
	"gleaner/shard"
)

func m(kind int, name, value string) api.Matcher {
	return api.Matcher{Kind: kind, Name: name, Value: value}
}

const eq, not, re, nre = api.MatchEq, api.MatchNot, api.MatchRx, api.MatchNrx

const a, b, c = `{a="1"}`, `{a="1",b="2"}`, `{b="2",c="3"}`

func TestP24_1Make(t *testing.T) {
	for _, x := range []struct {
		l    []api.Matcher
		want []api.Matcher
	}{
		{nil, []api.Matcher{{}}}, {[]api.Matcher{m(eq, "a", "1"), m(not, "b", "2")}, []api.Matcher{m(eq, "a", "1"), m(not, "b", "2")}}, {[]api.Matcher{m(not, "b", "2")}, []api.Matcher{{}, m(not, "b", "2")}},
		{[]api.Matcher{m(re, "b", ".*")}, []api.Matcher{{}}}, {[]api.Matcher{m(nre, "z", "x"), m(re, "a", "y|z")}, []api.Matcher{m(re, "a", "y|z"), m(not, "z", "x")}}, {[]api.Matcher{m(eq, "b", ""), m(eq, "a", "")}, []api.Matcher{{}, m(eq, "a", ""), m(eq, "b", "")}},
	} {
		got, code := Make(x.l, 5)
		var want []api.Ask
		for _, y := range x.want {
			want = append(want, api.Ask{Matcher: y, Group: place.Group(y.Name, 5)})
		}
		if code != api.OK || !slices.EqualFunc(got, want, func(a, b api.Ask) bool {
			return a.Matcher == b.Matcher && a.Group == b.Group && a.Turn+a.Since+a.Tries == 0 && !a.Done && len(a.Series) == 0
		}) {
			t.Error(x, got, code)
		}
	}
	for _, x := range []struct {
		l    []api.Matcher
		code api.Errno
	}{{make([]api.Matcher, 6), api.ErrLong}, {[]api.Matcher{{}}, api.ErrArg}, {[]api.Matcher{m(re, "a", "(a{20}){20}")}, api.ErrComplex}, {[]api.Matcher{m(eq, "a", "1"), m(eq, "A", "1")}, api.ErrLabel}} {
		if got, code := Make(x.l, 5); code != x.code || got != nil {
			t.Error(x, got, code)
		}
	}
}

func done(x api.Matcher, l ...string) api.Ask {
	return api.Ask{Matcher: x, Done: true, Series: l}
}

func TestP24_2Combine(t *testing.T) {
	bad, waits := api.Ask{Done: true, Error: api.ErrTime}, api.Ask{Matcher: m(eq, "a", "1")}
	for _, x := range []struct {
		l    []api.Ask
		want []string
		code api.Errno
	}{
		{nil, nil, api.OK}, {[]api.Ask{done(api.Matcher{}, a, b)}, []string{a, b}, api.OK}, {[]api.Ask{done(m(eq, "a", "1"), a, b), done(m(eq, "b", "2"), b, c)}, []string{b}, api.OK},
		{[]api.Ask{done(m(not, "b", "2"), b, c), done(api.Matcher{}, a, b, c), done(m(eq, "c", ""), c)}, []string{a}, api.OK}, {[]api.Ask{done(m(not, "b", "2"), b)}, nil, api.OK}, {[]api.Ask{done(m(eq, "a", "1")), done(m(eq, "b", "2"), b)}, nil, api.OK},
		{[]api.Ask{waits, bad, {Done: true, Error: api.ErrLong}}, nil, api.ErrTime}, {[]api.Ask{done(api.Matcher{}, a), waits}, nil, api.ErrState}, {[]api.Ask{done(api.Matcher{}, a), {Error: api.ErrArg}}, nil, api.ErrState},
	} {
		if got, code := Combine(x.l); code != x.code || !slices.Equal(got, x.want) {
			t.Error(x, got, code)
		}
	}
	one := []string{a, b}
	if got, _ := Combine([]api.Ask{done(api.Matcher{}, one...)}); len(got) != 2 {
		t.Error(got)
	} else if got[0] = "x"; one[0] != a {
		t.Error("memory is shared")
	}
}

func TestP24_3Choose(t *testing.T) {
	l := []string{c, b, "x", a, b, `{b="1",a="1"}`, ""}
	for _, x := range []struct {
		m    []api.Matcher
		want []string
	}{{nil, []string{b, a, c}}, {[]api.Matcher{m(eq, "a", "1")}, []string{b, a}}, {[]api.Matcher{m(eq, "b", "")}, []string{a}}, {[]api.Matcher{m(re, "b", "[2-3]"), m(not, "c", "3")}, []string{b}}, {[]api.Matcher{{}}, nil}} {
		if got := Choose(l, x.m); !slices.Equal(got, x.want) {
			t.Error(x, got)
		}
	}
	if l[0] != c {
		t.Error("changed", l)
	}
}

func TestP24_4NamesValuesCounts(t *testing.T) {
	l := []string{c, b, "x", a, b, `{a="2"}`, `{b="1",a="1"}`}
	if got := Names(l); !slices.Equal(got, []string{"a", "b", "c"}) {
		t.Error(got)
	}
	for name, want := range map[string][]string{"a": {"1", "2"}, "b": {"2"}, "d": nil, "": nil} {
		if got := Values(l, name); !slices.Equal(got, want) {
			t.Error(name, got)
		}
	}
	if got := Counts(l); !slices.Equal(got, []api.Count{{Name: "a", Values: 2, Series: 3}, {Name: "b", Values: 1, Series: 2}, {Name: "c", Values: 1, Series: 1}}) {
		t.Error(got)
	}
	if len(Names(nil))+len(Values(nil, "a"))+len(Counts([]string{"", "x"})) != 0 {
		t.Error("none")
	}
}

// answered are the asks of matchers, answered by a shard with all series, in the order that step says.
func answered(t *testing.T, s api.Shard, l []api.Matcher, step int) []api.Ask {
	asks, code := Make(l, 4)
	if code != api.OK {
		t.Fatal(l, code)
	}
	for i := range asks {
		asks[i].Done = true
		asks[i].Series, asks[i].Error = shard.Ask(s, asks[i].Matcher)
	}
	for range step % len(asks) {
		asks = append(asks[1:], asks[0])
	}
	return asks
}

func TestP24_5And6WhatMatchersChoose(t *testing.T) {
	s := shard.New(0, 1)
	for i := range 40 {
		text := []string{fmt.Sprintf(`{a="%d"}`, i%5), fmt.Sprintf(`{a="%d",b="%d"}`, i%3, i%4), fmt.Sprintf(`{b="a",c="%d"}`, i%4)}[i%3]
		_, change, _ := orset.Add(api.Set{}, api.Entry{Series: text, Dot: api.Dot{Node: i % 3, N: i + 1}})
		s = shard.Apply(s, change)
	}
	var all []api.Matcher
	for i, v := range []string{"1", "", "0|1", ".+", "a*", "[^a]", ".*"} {
		for kind := eq; kind <= nre; kind++ {
			if kind >= re || label.IsValue(v) {
				all = append(all, m(kind, []string{"a", "b", "c"}[(i+kind)%3], v))
			}
		}
	}
	for i := range 300 {
		l := []api.Matcher{all[i%len(all)], all[(i*5+1)%len(all)], all[(i*11+2)%len(all)]}[:i%4%3+1]
		var want []string
		for _, text := range shard.Series(s) {
			if labels, _ := label.Parse(text); matcher.Match(l, labels) {
				want = append(want, text)
			}
		}
		for step := range 4 {
			if got, code := Combine(answered(t, s, l, step)); code != api.OK || !slices.Equal(got, want) {
				t.Error(l, got, want, code)
			}
		}
		if got := Choose(shard.Series(s), l); !slices.Equal(got, want) {
			t.Error(l, got, want)
		}
	}
}
