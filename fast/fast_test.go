package fast_test

import (
	"fmt"
	"reflect"
	"slices"
	"testing"

	"gleaner/api"
	. "gleaner/fast"
	"gleaner/index"
	"gleaner/matcher"
	"gleaner/series"
)

func m(kind int, name, value string) api.Matcher {
	return api.Matcher{Kind: kind, Name: name, Value: value}
}

// build is an index with some series; two went again.
func build(t *testing.T) api.Index {
	x := index.New()
	var code api.Errno
	for i := range 60 {
		s := []string{fmt.Sprintf(`{a="x%d"}`, i), fmt.Sprintf(`{a="%d",b="%d"}`, i%4, i), fmt.Sprintf(`{b="ab%d",c="%d"}`, i%7, i)}[i%3]
		if x, code = index.Add(x, s); code != api.OK {
			t.Fatal(s, code)
		}
	}
	x, _ = index.Remove(x, `{a="x0"}`)
	x, _ = index.Remove(x, `{b="ab2",c="2"}`)
	return x
}

// all are matchers of many sorts.
func all() []api.Matcher {
	var l []api.Matcher
	for i, v := range []string{"", "1", "x3", "ab1", "no"} {
		for _, name := range []string{"a", "b", "c", "d"} {
			l = append(l, m(api.MatchEq+i%2, name, v), m(api.MatchNot-i%2, name, v))
		}
	}
	for i, v := range []string{"1|2", "x.*", "ab[0-3]?", ".+", ".*", "", "x(1|2)+", "[^x].*", "(1|)", "ab.*4"} {
		for _, name := range []string{"a", "b", "d"} {
			l = append(l, m(api.MatchRx+i%2, name, v), m(api.MatchNrx-i%2, name, v))
		}
	}
	return l
}

func TestP33_1Way(t *testing.T) {
	x := index.New()
	for _, s := range []string{`{a="1"}`, `{a="1",b="x"}`, `{a="2"}`, `{a="ab"}`, `{a="abc",b="ab"}`} {
		x, _ = index.Add(x, s)
	}
	for _, c := range []struct {
		m    api.Matcher
		want api.Way
	}{
		{m(3, "a", "1|2|7"), api.Way{Kind: api.FastSet, Values: []string{"1", "2", "7"}, Most: 3}}, {m(1, "a", ""), api.Way{Kind: api.FastSet}}, {m(1, "a", "1"), api.Way{Kind: api.FastSet, Values: []string{"1"}, Most: 2}}, {m(3, "a", "(1|)"), api.Way{Kind: api.FastSet, Values: []string{"1"}, Most: 2}}, {m(4, "a", ".*"), api.Way{Kind: api.FastSet}},
		{m(3, "a", "ab.*"), api.Way{Kind: api.FastPrefix, Values: []string{"ab", "abc"}, Most: 2}}, {m(3, "a", "abx+"), api.Way{Kind: api.FastPrefix}}, {m(3, "a", "[ab].*"), api.Way{Kind: api.FastAll, Values: []string{"1", "2", "ab", "abc"}, Most: 5}}, {m(3, "b", ".+"), api.Way{Kind: api.FastAll, Values: []string{"ab", "x"}, Most: 2}}, {m(2, "c", "1"), api.Way{Kind: api.FastAll}},
	} {
		if w, code := Way(x, c.m); code != api.OK || w.Kind != c.want.Kind || w.Most != c.want.Most || !slices.Equal(w.Values, c.want.Values) {
			t.Error(c.m, w, code)
		}
	}
	for y, want := range map[api.Matcher]api.Errno{{}: api.ErrArg, m(1, "A", ""): api.ErrLabel, m(3, "a", "("): api.ErrSyntax, m(4, "a", "(a{20}){20}"): api.ErrComplex} {
		w, code := Way(x, y)
		ids, c := Pick(x, y)
		if code != want || c != want || ids != nil || !reflect.DeepEqual(w, api.Way{}) || Looks(x, y) != 0 {
			t.Error(y, code, c)
		}
	}
}

func TestP33_2And6Pick(t *testing.T) {
	x := build(t)
	found := 0
	for _, y := range all() {
		got, code := Pick(x, y)
		want, c := index.Pick(x, y, true)
		if code+c != api.OK || !slices.Equal(got, want) {
			t.Error(y, got, want)
		}
		found += len(got)
	}
	if found < 100 {
		t.Error("only", found)
	}
}

func TestP33_3Looks(t *testing.T) {
	x := build(t)
	for y, want := range map[api.Matcher]int{m(3, "a", "1|2"): 0, m(1, "a", "1"): 0, m(3, "b", "ab.*"): len(slices.DeleteFunc(index.Values(x, "b"), func(s string) bool { return len(s) < 3 })), m(3, "a", ".+"): len(index.Values(x, "a")), m(3, "d", ".+"): 0, m(2, "a", "x"): len(index.Values(x, "a"))} {
		if n := Looks(x, y); n != want {
			t.Error(y, n, want)
		}
	}
}

func TestP33_4Order(t *testing.T) {
	x := index.New()
	for _, s := range []string{`{a="1",b="1",c="1"}`, `{a="1",b="2",c="1"}`, `{a="1",c="1"}`, `{d="1"}`} {
		x, _ = index.Add(x, s)
	}
	for _, c := range []struct{ l, want []api.Matcher }{
		{nil, nil}, {[]api.Matcher{m(2, "a", "9"), m(1, "a", "1"), m(1, "b", "1"), m(3, "b", "1|2")}, []api.Matcher{m(1, "b", "1"), m(3, "b", "1|2"), m(1, "a", "1"), m(2, "a", "9")}},
		{[]api.Matcher{m(1, "c", "1"), m(1, "a", "1"), m(1, "d", "1")}, []api.Matcher{m(1, "d", "1"), m(1, "a", "1"), m(1, "c", "1")}}, {[]api.Matcher{m(1, "d", ""), m(3, "z", ".+"), m(2, "a", "x"), m(3, "a", ".*")}, []api.Matcher{m(2, "z", ""), m(2, "a", "x"), m(1, "d", "")}},
	} {
		if got, code := Order(x, c.l); code != api.OK || !slices.Equal(got, c.want) {
			t.Error(c, got, code)
		}
	}
	for _, c := range []struct {
		l    []api.Matcher
		code api.Errno
	}{{make([]api.Matcher, 6), api.ErrLong}, {make([]api.Matcher, 1), api.ErrArg}, {[]api.Matcher{m(3, "a", "*")}, api.ErrSyntax}} {
		l, code := Order(x, c.l)
		ids, d := Select(x, c.l)
		if code != c.code || d != c.code || l != nil || ids != nil {
			t.Error(c, code, d)
		}
	}
}

func TestP33_5And7Select(t *testing.T) {
	x, l := build(t), all()
	found := 0
	for i := range 400 {
		some := []api.Matcher{l[i%len(l)], l[(i*7+3)%len(l)], l[(i*11+5)%len(l)]}[:i%4%3+1]
		if i == 0 {
			some = nil
		}
		var want []int
		for id := range x.Table.Rows {
			if labels, ok := series.Labels(x.Table, id); ok && matcher.Match(some, labels) {
				want = append(want, id)
			}
		}
		got, code := Select(x, some)
		if code != api.OK || !slices.Equal(got, want) {
			t.Error(some, got, want)
		}
		found += len(got)
	}
	if found < 500 {
		t.Error("only", found)
	}
	got, _ := Select(x, nil)
	got[0] = 99
	if !index.Whole(x) {
		t.Error("memory is shared")
	}
}

func TestP33_8NoMoreThanThereAre(t *testing.T) {
	x := build(t)
	for _, y := range all() {
		w, _ := Way(x, y)
		ids, _ := Pick(x, y)
		if Looks(x, y) > len(index.Values(x, y.Name)) || len(ids) > w.Most {
			t.Error(y, w, ids)
		}
	}
}
