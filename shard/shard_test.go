package shard_test

import (
	"fmt"
	"reflect"
	"slices"
	"testing"

	"gleaner/api"
	"gleaner/dot"
	"gleaner/index"
	"gleaner/label"
	"gleaner/matcher"
	"gleaner/orset"
	. "gleaner/shard"
)

func d(node, n int) api.Dot { return api.Dot{Node: node, N: n} }

// add is a change that adds a series.
func add(t *testing.T, series string, at api.Dot) api.Delta {
	_, change, code := orset.Add(api.Set{}, api.Entry{Series: series, Dot: at})
	if code != api.OK {
		t.Fatal(series, code)
	}
	return change
}

// gone is a change that removes what was there by dots.
func gone(l ...api.Dot) api.Delta {
	return api.Delta{Context: dot.From(l)}
}

func some(i int) string {
	return []string{fmt.Sprintf(`{a="%d"}`, i%5), fmt.Sprintf(`{a="%d",b="%d"}`, i%3, i%2), fmt.Sprintf(`{b="a",c="%d"}`, i%4)}[i%3]
}

// changes are adds and removes by a rule.
func changes(t *testing.T) []api.Delta {
	var l []api.Delta
	for i := range 40 {
		l = append(l, add(t, some(i*7), d(i%3, i/3+1)))
		if i%4 == 3 {
			l = append(l, gone(d((i-2)%3, (i-2)/3+1), d(i%3, i/3+1), d(5, i)))
		}
	}
	return l
}

func TestP20_1New(t *testing.T) {
	if s := New(2, 5); !reflect.DeepEqual(s, api.Shard{Group: 2, Groups: 5, Index: index.New()}) {
		t.Error(s)
	}
}

func TestP20_2Whole(t *testing.T) {
	make := func() api.Shard { return Apply(New(0, 1), add(t, `{a="1"}`, d(0, 1))) }
	if !Whole(make()) || !Whole(New(0, 1)) || !Whole(api.Shard{}) {
		t.Error("not whole")
	}
	a, b, c, e := make(), make(), make(), make()
	a.Set.Entries[0].Dot.N = 2
	b.Index.All = nil
	c.Index = index.New()
	e.Index, _ = index.Add(e.Index, `{a="2"}`)
	for _, s := range []api.Shard{a, b, c, e} {
		if Whole(s) {
			t.Error(s)
		}
	}
}

func TestP20_3Apply(t *testing.T) {
	s := New(3, 4)
	for _, x := range []struct {
		d    api.Delta
		want []string
	}{
		{add(t, `{b="1"}`, d(0, 1)), []string{`{b="1"}`}}, {add(t, `{a="1"}`, d(1, 1)), []string{`{a="1"}`, `{b="1"}`}}, {add(t, `{b="1"}`, d(0, 2)), []string{`{a="1"}`, `{b="1"}`}}, {gone(d(0, 1), d(2, 1)), []string{`{a="1"}`, `{b="1"}`}},
		{api.Delta{Alive: []api.Dot{d(9, 9)}}, []string{`{a="1"}`, `{b="1"}`}}, {gone(d(0, 2), d(1, 1)), nil},
	} {
		before := s
		s = Apply(s, x.d)
		if !orset.Same(s.Set, orset.Apply(before.Set, x.d)) || !slices.Equal(Series(s), x.want) || !Whole(s) || s.Group != 3 || s.Groups != 4 {
			t.Error(x, s)
		}
	}
	// What goes leaves the index ahead of what comes: its number is free again.
	s = Apply(New(0, 1), add(t, `{b="1"}`, d(0, 1)))
	e := api.Entry{Series: `{a="1"}`, Dot: d(0, 2)}
	s = Apply(s, api.Delta{Entries: []api.Entry{e}, Alive: []api.Dot{e.Dot}, Context: dot.From([]api.Dot{d(0, 1), e.Dot})})
	if !slices.Equal(s.Index.All, []int{0}) || !Whole(s) {
		t.Error(s.Index.All)
	}
}

func TestP20_4HasContextSeries(t *testing.T) {
	s := Apply(Apply(New(0, 1), add(t, `{b="1"}`, d(0, 2))), add(t, `{a="1"}`, d(0, 3)))
	if !Has(s, `{b="1"}`) || Has(s, `{b="2"}`) || !dot.Same(Context(s), dot.From([]api.Dot{d(0, 2), d(0, 3)})) || !slices.Equal(Series(s), []string{`{a="1"}`, `{b="1"}`}) {
		t.Error(s)
	}
	Context(s).Cloud[0].N = 77
	if s.Set.Context.Cloud[0].N != 2 {
		t.Error("memory is shared")
	}
}

func TestP20_5Ask(t *testing.T) {
	s := Apply(Apply(New(0, 1), add(t, `{b="1"}`, d(0, 2))), add(t, `{a="1"}`, d(0, 3)))
	a, both := []string{`{a="1"}`}, []string{`{a="1"}`, `{b="1"}`}
	for _, x := range []struct {
		m    api.Matcher
		want []string
		code api.Errno
	}{
		{api.Matcher{}, both, api.OK}, {api.Matcher{Kind: api.MatchEq, Name: "a", Value: "1"}, a, api.OK}, {api.Matcher{Kind: api.MatchNot, Name: "a", Value: "1"}, a, api.OK}, {api.Matcher{Kind: api.MatchNot, Name: "a", Value: "2"}, nil, api.OK},
		{api.Matcher{Kind: api.MatchEq, Name: "a"}, a, api.OK}, {api.Matcher{Kind: api.MatchNot, Name: "a"}, a, api.OK}, {api.Matcher{Kind: api.MatchRx, Name: "a", Value: "2*"}, a, api.OK}, {api.Matcher{Kind: api.MatchRx, Name: "c", Value: ".+"}, nil, api.OK},
		{api.Matcher{Name: "a"}, nil, api.ErrArg}, {api.Matcher{Kind: api.MatchEq}, nil, api.ErrLabel}, {api.Matcher{Kind: api.MatchRx, Name: "a", Value: "*"}, nil, api.ErrSyntax},
	} {
		if l, code := Ask(s, x.m); code != x.code || !slices.Equal(l, x.want) {
			t.Error(x, l, code)
		}
	}
}

func TestP20_6And7AnyOrder(t *testing.T) {
	l := changes(t)
	var s [3]api.Shard
	for k := range s {
		s[k] = New(1, 2)
		for i := range l {
			s[k] = Apply(s[k], l[(i*(2*k+1))%len(l)])
			if !Whole(s[k]) {
				t.Fatal(k, i)
			}
		}
		for i := range l {
			s[k] = Apply(s[k], l[len(l)-1-i])
		}
	}
	if len(Series(s[0])) < 3 {
		t.Error(Series(s[0]))
	}
	for k := range s {
		for _, m := range []api.Matcher{{}, {Kind: api.MatchRx, Name: "a", Value: "[0-2]"}, {Kind: api.MatchNot, Name: "b", Value: "1"}} {
			x, _ := Ask(s[0], m)
			if y, code := Ask(s[k], m); code != api.OK || !slices.Equal(x, y) {
				t.Error(k, m, x, y)
			}
		}
	}
}

func TestP20_8WhatConditionsMean(t *testing.T) {
	s := New(0, 1)
	for _, x := range changes(t) {
		s = Apply(s, x)
	}
	for _, name := range []string{"a", "b", "c", "d"} {
		for _, v := range []string{"1", "", "0|1", ".+", "a*", "[^a]"} {
			for kind := api.MatchEq; kind <= api.MatchNrx; kind++ {
				m := api.Matcher{Kind: kind, Name: name, Value: v}
				var want []string
				for _, u := range Series(s) {
					l, _ := label.Parse(u)
					if x := label.Value(l, name); x != "" && matcher.Accepts(m, x) != matcher.Empty(m) {
						want = append(want, u)
					}
				}
				if got, code := Ask(s, m); code != api.OK || !slices.Equal(got, want) {
					t.Error(m, got, want)
				}
			}
		}
	}
}
