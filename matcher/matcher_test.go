package matcher_test

import (
	"reflect"
	"slices"
	"strings"
	"testing"

	"gleaner/api"
	"gleaner/dfa"
	"gleaner/label"
	"gleaner/least"
	. "gleaner/matcher"
	"gleaner/rx"
	"gleaner/rxtext"
)

func m(kind int, name, value string) api.Matcher {
	return api.Matcher{Kind: kind, Name: name, Value: value}
}

const eq, not, re, nre = api.MatchEq, api.MatchNot, api.MatchRx, api.MatchNrx

// wrong are matchers that may not be, with their errors.
func wrong() map[api.Matcher]api.Errno {
	return map[api.Matcher]api.Errno{
		{}: api.ErrArg, m(5, "a", ""): api.ErrArg, m(-1, "A", ""): api.ErrArg, m(eq, "", "x"): api.ErrLabel, m(eq, "A", "x"): api.ErrLabel, m(re, "9", "*"): api.ErrLabel,
		m(eq, "a", "\n"): api.ErrLabel, m(not, "a", strings.Repeat("x", 33)): api.ErrLabel, m(re, "a", "*"): api.ErrSyntax, m(nre, "a", "("): api.ErrSyntax, m(re, "a", "\n"): api.ErrSyntax,
		m(re, "a", strings.Repeat("x", 61)): api.ErrLong, m(nre, "a", "x{21}"): api.ErrLong, m(re, "a", strings.Repeat("(", 13)): api.ErrDeep, m(re, "a", "(x{20}){20}"): api.ErrComplex, m(nre, "a", "(a|b)*a(a|b){7}"): api.ErrComplex,
	}
}

// right are matchers that may be.
func right() []api.Matcher {
	var out []api.Matcher
	for _, v := range []string{"", "1", "x.y", strings.Repeat("v", 32)} {
		out = append(out, m(eq, "a", v), m(not, "a", v))
	}
	for _, v := range []string{"", "1", "1|2", "x.*", ".*", ".+", "1*", `\.`, "(1|2)*1", "x|", "[^1]*", ".", "[^]", "1{2,3}", `\x00`, "x{20}x{13}"} {
		out = append(out, m(re, "b", v), m(nre, "b", v))
	}
	return out
}

func words() []string {
	return []string{"", "1", "2", "11", "111", "12", "121", "x", "xy", "x.y", "xay", ".", "3", "\x00", "\xff", strings.Repeat("v", 32), strings.Repeat("x", 33)}
}

func TestP14_1Check(t *testing.T) {
	for x, code := range wrong() {
		if got := Check(x); got != code {
			t.Error(x, got, code)
		}
	}
	for _, x := range right() {
		if code := Check(x); code != api.OK {
			t.Error(x, code)
		}
	}
}

func TestP14_2Compile(t *testing.T) {
	for _, x := range right() {
		d, code := Compile(x)
		if l, _ := least.Least(d); code != api.OK || !least.Same(l, d) {
			t.Error(x, code)
		}
		for _, w := range words() {
			if dfa.Run(d, w) != Accepts(x, w) {
				t.Errorf("%v of %q", x, w)
			}
		}
	}
	for x, want := range wrong() {
		if d, code := Compile(x); code != want || !reflect.DeepEqual(d, api.Dfa{}) {
			t.Error(x, code)
		}
	}
}

func TestP14_3AcceptsAndEmpty(t *testing.T) {
	for _, c := range []struct {
		m    api.Matcher
		s    string
		want bool
	}{
		{m(eq, "a", "1"), "1", true}, {m(eq, "a", "1"), "11", false}, {m(eq, "a", ""), "", true}, {m(not, "a", "1"), "1", false}, {m(not, "a", "1"), "\xff", true}, {m(eq, "a", "x.y"), "xay", false},
		{m(re, "a", "x.y"), "xay", true}, {m(re, "a", "1|2"), "2", true}, {m(re, "a", "1|2"), "12", false}, {m(nre, "a", "1|2"), "12", true}, {m(nre, "a", "1|2"), "1", false},
	} {
		if Accepts(c.m, c.s) != c.want {
			t.Error(c)
		}
	}
	for x := range wrong() {
		if Empty(x) || slices.ContainsFunc(words(), func(w string) bool { return Accepts(x, w) }) {
			t.Error(x)
		}
	}
	for x, want := range map[api.Matcher]bool{m(eq, "a", ""): true, m(eq, "a", "x"): false, m(not, "a", "x"): true, m(not, "a", ""): false, m(re, "a", "x*"): true, m(nre, "a", "x*"): false, m(nre, "a", "x+"): true} {
		if Empty(x) != want {
			t.Error(x)
		}
	}
}

func TestP14_4Match(t *testing.T) {
	l := []api.Label{{Name: "a", Value: "1"}, {Name: "b", Value: "x"}}
	for _, c := range []struct {
		m    []api.Matcher
		want bool
	}{
		{nil, true}, {[]api.Matcher{m(re, "a", "1|2")}, true}, {[]api.Matcher{m(eq, "a", "1"), m(not, "b", "y"), m(eq, "c", "")}, true}, {[]api.Matcher{m(eq, "a", "1"), m(eq, "b", "y")}, false},
		{[]api.Matcher{m(re, "c", ".+")}, false}, {[]api.Matcher{m(nre, "c", ".+")}, true}, {[]api.Matcher{m(eq, "a", "1"), {}}, false}, {slices.Repeat([]api.Matcher{m(eq, "a", "1")}, 9), true},
	} {
		if Match(c.m, l) != c.want {
			t.Error(c.m)
		}
	}
	if !Match([]api.Matcher{m(eq, "a", "1")}, []api.Label{{Name: "a", Value: "1"}, {Name: "a", Value: "2"}}) {
		t.Error("the first label of a name counts")
	}
}

func TestP14_5Normal(t *testing.T) {
	odd := m(re, "a", `\x00`)
	for _, c := range []struct{ l, want []api.Matcher }{
		{nil, nil}, {[]api.Matcher{m(re, "a", "x"), m(re, "a", "x"), m(re, "b", ".*")}, []api.Matcher{m(eq, "a", "x")}},
		{[]api.Matcher{m(nre, "a", "x"), m(re, "b", "[x]"), m(eq, "a", "2"), m(eq, "a", "1")}, []api.Matcher{m(eq, "a", "1"), m(eq, "a", "2"), m(not, "a", "x"), m(eq, "b", "x")}},
		{[]api.Matcher{m(nre, "b", "1|2"), m(re, "b", "1|2"), m(not, "b", "3"), m(re, "a", ".+")}, []api.Matcher{m(not, "a", ""), m(not, "b", "3"), m(re, "b", "1|2"), m(nre, "b", "1|2")}},
		{[]api.Matcher{odd, m(nre, "a", `\x00`), m(nre, "c", ".*"), m(re, "d", "()*")}, []api.Matcher{odd, m(nre, "a", `\x00`), m(nre, "c", ".*"), m(eq, "d", "")}},
		{[]api.Matcher{m(re, "a", "x{20}x{13}")}, []api.Matcher{m(re, "a", "x{20}x{13}")}}, {[]api.Matcher{m(re, "a", "x{20}x{12}")}, []api.Matcher{m(eq, "a", strings.Repeat("x", 32))}},
	} {
		before := slices.Clone(c.l)
		got, code := Normal(c.l)
		if code != api.OK || !slices.Equal(got, c.want) || !slices.Equal(before, c.l) {
			t.Error(c.l, got, code)
		}
	}
	five := []api.Matcher{m(eq, "a", "1"), m(eq, "a", "2"), m(eq, "a", "3"), m(eq, "a", "4"), m(eq, "a", "5")}
	if got, code := Normal(five); code != api.OK || !slices.Equal(got, five) {
		t.Error(got, code)
	}
	for x, code := range wrong() {
		if l, got := Normal([]api.Matcher{m(eq, "a", "1"), x, {}}); got != code || l != nil {
			t.Error(x, got)
		}
		if l, got := Normal(slices.Repeat([]api.Matcher{x}, 6)); got != api.ErrLong || l != nil {
			t.Error(x, got)
		}
	}
}

func TestP14_6ChoosesTheSame(t *testing.T) {
	all := right()
	for i := range all {
		l := []api.Matcher{all[i], all[(i*7+3)%len(all)], all[(i*5+1)%len(all)]}
		n, code := Normal(l)
		again, _ := Normal(n)
		if code != api.OK || !slices.Equal(n, again) {
			t.Error(l, n, again, code)
		}
		for _, x := range words() {
			for _, y := range words()[:6] {
				s := []api.Label{{Name: "a", Value: x}, {Name: "b", Value: y}}
				if Match(l, s) != Match(n, s) {
					t.Error(l, n, s)
				}
			}
		}
	}
}

func TestP14_7JustOne(t *testing.T) {
	for _, x := range right() {
		if x.Kind != eq && x.Kind != re {
			continue
		}
		for _, w := range words() {
			if Accepts(x, w) == Accepts(m(x.Kind+1, x.Name, x.Value), w) {
				t.Error(x, w)
			}
		}
	}
}

func TestP14_8AcceptsWhatItIsOf(t *testing.T) {
	for _, x := range right() {
		if x.Kind != re {
			continue
		}
		p, _, _ := rx.Parse(x.Value)
		for _, w := range words() {
			if Accepts(x, w) != rxtext.Match(p, w) {
				t.Error(x, w)
			}
		}
	}
	if v := label.Value(nil, "a"); !Accepts(m(re, "a", ""), v) {
		t.Error("an absent label")
	}
}
