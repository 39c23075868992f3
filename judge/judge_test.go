package judge_test

import (
	"fmt"
	"slices"
	"testing"

	"gleaner/api"
	. "gleaner/judge"
)

const a, b, c = `{a="1"}`, `{b="1"}`, `{c="1"}`

func add(s string, n int) api.Fact {
	return api.Fact{Kind: api.FactAdd, Series: s, Dot: api.Dot{N: n}}
}

func gone(s string, n int) api.Fact {
	return api.Fact{Kind: api.FactGone, Series: s, Dot: api.Dot{N: n}}
}

func answer(still bool, l ...string) api.Fact {
	return api.Fact{Kind: api.FactAnswer, Still: still, List: l}
}

func only(f api.Fact, name string) api.Fact {
	f.Matchers = []api.Matcher{{Kind: api.MatchEq, Name: name, Value: "1"}}
	return f
}

func failed(code api.Errno, l ...string) api.Fact {
	return api.Fact{Kind: api.FactAnswer, Error: code, List: l, Still: true}
}

func TestP29_1Fits(t *testing.T) {
	l := []api.Fact{add(a, 1), add(b, 2), gone(b, 2), add("x", 3)}
	for _, f := range []api.Fact{answer(true, a), answer(false, a), answer(false), answer(false, a, b), answer(false, b), only(answer(true, a), "a"), only(answer(true), "b"), only(answer(false, b), "b"), failed(api.ErrTime)} {
		if !Fits(l, f) {
			t.Error(f)
		}
	}
	for _, f := range []api.Fact{answer(true), answer(true, a, b), answer(false, b, a), answer(false, a, a), answer(false, c), answer(false, "x"), only(answer(false, b), "a"), only(answer(true, a), "b"), add(a, 9), gone(a, 1), {}, {Kind: 7}} {
		if Fits(l, f) {
			t.Error(f)
		}
	}
	good := []api.Errno{api.ErrArg, api.ErrLong, api.ErrLabel, api.ErrSyntax, api.ErrDeep, api.ErrComplex, api.ErrTime}
	for code := api.Errno(-1); code < 20; code++ {
		if code != api.OK && (Fits(l, failed(code)) != slices.Contains(good, code) || Fits(l, failed(code, a))) {
			t.Error(code)
		}
	}
	wrong := answer(false, a)
	wrong.Matchers = []api.Matcher{{}}
	if Fits(l, wrong) {
		t.Error("a matcher that may not be matches")
	}
}

func TestP29_2Judge(t *testing.T) {
	for i, x := range []struct {
		l    []api.Fact
		want int
		ok   bool
	}{
		{nil, 0, true}, {[]api.Fact{add(a, 1), answer(true, a), gone(a, 1), answer(true), failed(api.ErrTime)}, 5, true}, {[]api.Fact{add(a, 1), add(b, 1)}, 1, false}, {[]api.Fact{gone(a, 1)}, 0, false}, {[]api.Fact{add(a, 1), gone(b, 1), answer(true)}, 1, false},
		{[]api.Fact{answer(true, a), add(a, 1)}, 0, false}, {[]api.Fact{add(a, 1), {}, add(a, 1)}, 1, false}, {[]api.Fact{add(a, 1), {Kind: 4}}, 1, false}, {[]api.Fact{add(a, 0), answer(false)}, 0, false}, {[]api.Fact{answer(true), add(a, 1), answer(true), answer(true)}, 2, false},
	} {
		if n, ok := Judge(x.l); n != x.want || ok != x.ok {
			t.Error(i, n, ok)
		}
	}
}

// facts are right ones by a rule.
func facts() []api.Fact {
	var l []api.Fact
	there := map[string]int{}
	for i := 1; i < 40; i++ {
		s := fmt.Sprintf(`{a="%d"}`, i*7%10)
		if n, ok := there[s]; ok {
			l = append(l, gone(s, n))
			delete(there, s)
		} else {
			l = append(l, add(s, i))
			there[s] = i
		}
		var all []string
		for s := range there {
			all = append(all, s)
		}
		slices.Sort(all)
		l = append(l, answer(i%3 > 0, all...))
	}
	return l
}

func TestP29_3Beginning(t *testing.T) {
	l := facts()
	for i := range len(l) + 1 {
		if n, ok := Judge(l[:i]); n != i || !ok {
			t.Error(i, n, ok)
		}
	}
}

func TestP29_4MoreOrLess(t *testing.T) {
	l := facts()
	told := 0
	for i, f := range l {
		if !f.Still || len(f.List) == 0 {
			continue
		}
		for _, list := range [][]string{f.List[1:], f.List[:len(f.List)-1], append(slices.Clone(f.List), `{z="1"}`), append(slices.Clone(f.List), f.List[len(f.List)-1]), append([]string{f.List[0]}, f.List...)} {
			wrong := slices.Clone(l)
			wrong[i].List = list
			if n, ok := Judge(wrong); n != i || ok {
				t.Error(i, n, ok)
			}
			told++
		}
	}
	if told < 50 {
		t.Error("only", told)
	}
}
