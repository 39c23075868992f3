package delta_test

import (
	"fmt"
	"reflect"
	"slices"
	"testing"

	"gleaner/api"
	. "gleaner/delta"
	"gleaner/dot"
	"gleaner/orset"
)

func d(node, n int) api.Dot { return api.Dot{Node: node, N: n} }

func entry(i int, at api.Dot) api.Entry {
	return api.Entry{Series: fmt.Sprintf(`{a="%d"}`, i), Dot: at, Tick: i, Links: []api.Link{{Group: 1, Dot: at}}}
}

func set(l []api.Entry, more ...api.Dot) api.Set {
	for _, e := range l {
		more = append(more, e.Dot)
	}
	return api.Set{Entries: l, Context: dot.From(more)}
}

// sets are what three places hold, by a rule, that heard of one another by what they told.
func sets(seed, steps int) []api.Set {
	next := func(n int) int {
		seed = (seed*1103 + 12345) % 65521
		return seed % n
	}
	l := make([]api.Set, 3)
	made := make([]int, 3)
	for range steps {
		i, k := next(3), next(3)
		before := l[i]
		switch next(5) {
		case 0, 1:
			l[i], _, _ = orset.Add(before, entry(next(4), d(i, made[i]+1)))
		case 2:
			l[i], _ = orset.Remove(before, entry(next(4), d(0, 1)).Series, d(i, made[i]+1))
		default:
			l[i] = orset.Apply(before, Since(l[k], before.Context))
		}
		if dot.Has(l[i].Context, d(i, made[i]+1)) {
			made[i]++
		}
	}
	return l
}

// wrongSet and wrongContext are not right.
var wrongSet, wrongContext = api.Set{Entries: []api.Entry{{}}}, api.Context{Cloud: []api.Dot{{N: 1}}}

func TestP16_1Since(t *testing.T) {
	e, f, g := entry(1, d(0, 1)), entry(2, d(1, 2)), entry(3, d(2, 1))
	s := set([]api.Entry{e, f, g}, d(5, 5))
	got := Since(s, dot.From([]api.Dot{d(0, 1), d(1, 1), d(2, 1), d(9, 9)}))
	if want := (api.Delta{Entries: []api.Entry{f}, Alive: []api.Dot{e.Dot, f.Dot, g.Dot}, Context: s.Context}); !reflect.DeepEqual(got, want) {
		t.Error(got)
	}
	got.Entries[0].Links[0].Group = 9
	got.Context.Vector[0].N = 9
	if f.Links[0].Group != 1 || s.Context.Vector[0].N != 1 {
		t.Error("memory is shared")
	}
	if got := All(s); !reflect.DeepEqual(got, Since(s, api.Context{})) || len(got.Entries) != 3 {
		t.Error(got)
	}
	for _, x := range []api.Delta{Since(wrongSet, api.Context{}), All(wrongSet), Since(s, wrongContext)} {
		if !reflect.DeepEqual(x, api.Delta{}) {
			t.Error(x)
		}
	}
}

func TestP16_2Fits(t *testing.T) {
	e, f := entry(1, d(0, 1)), entry(2, d(1, 2))
	x := api.Delta{Entries: []api.Entry{f}, Alive: []api.Dot{e.Dot, f.Dot}, Context: dot.From([]api.Dot{e.Dot, f.Dot})}
	if Fits(x, api.Context{}) || !Fits(x, dot.From([]api.Dot{e.Dot})) || Fits(x, dot.From([]api.Dot{f.Dot})) || !Fits(api.Delta{}, api.Context{}) {
		t.Error("Fits")
	}
	if Fits(api.Delta{}, wrongContext) || Fits(api.Delta{Alive: []api.Dot{e.Dot}}, dot.From([]api.Dot{e.Dot})) || Fits(api.Delta{Entries: x.Entries, Context: x.Context}, x.Context) {
		t.Error("what is not right fits")
	}
}

func TestP16_3News(t *testing.T) {
	e, f := entry(1, d(0, 1)), entry(2, d(1, 2))
	s := set([]api.Entry{e})
	for _, c := range []struct {
		d    api.Delta
		want bool
	}{{All(s), false}, {api.Delta{}, false}, {All(set([]api.Entry{f})), true}, {api.Delta{Context: dot.From([]api.Dot{e.Dot})}, true}, {api.Delta{Context: dot.From([]api.Dot{f.Dot})}, true}, {api.Delta{Alive: []api.Dot{f.Dot}, Context: dot.From([]api.Dot{f.Dot})}, false}} {
		if News(s, c.d) != c.want {
			t.Error(c.d)
		}
	}
	if News(wrongSet, All(s)) {
		t.Error("a set that is not right changes")
	}
}

func TestP16_4Join(t *testing.T) {
	e, f, g, h := entry(1, d(0, 1)), entry(2, d(1, 1)), entry(3, d(1, 2)), entry(4, d(2, 1))
	other := e
	other.Tick = 99
	a := api.Delta{Entries: []api.Entry{e, g}, Alive: []api.Dot{e.Dot, g.Dot, h.Dot}, Context: dot.From([]api.Dot{e.Dot, f.Dot, g.Dot, h.Dot})}
	b := api.Delta{Entries: []api.Entry{other, f, h}, Alive: []api.Dot{e.Dot, f.Dot, h.Dot}, Context: dot.From([]api.Dot{e.Dot, f.Dot, h.Dot, d(7, 7)})}
	want := api.Delta{Entries: []api.Entry{e, g, h}, Alive: []api.Dot{e.Dot, g.Dot, h.Dot}, Context: dot.From([]api.Dot{e.Dot, f.Dot, g.Dot, h.Dot, d(7, 7)})}
	if got := Join(a, b); !reflect.DeepEqual(got, want) {
		t.Error(got)
	}
	bad := api.Delta{Alive: []api.Dot{e.Dot}}
	for _, x := range []api.Delta{Join(bad, a), Join(a, bad)} {
		if !reflect.DeepEqual(x, api.Delta{}) {
			t.Error(x)
		}
	}
}

func TestP16_5SinceDoesAll(t *testing.T) {
	for seed := 1; seed < 200; seed++ {
		l := sets(seed, 20)
		for _, s := range l {
			for _, u := range l {
				x := Since(s, u.Context)
				a, b := orset.Apply(u, x), orset.Apply(u, All(s))
				if !orset.Same(a, b) || !dot.Under(s.Context, a.Context) || !Fits(x, u.Context) || !orset.RightDelta(x) {
					t.Fatal(seed, s, u)
				}
			}
		}
	}
}

func TestP16_6Same(t *testing.T) {
	for seed := 1; seed < 200; seed++ {
		l := sets(seed, 25)
		for _, s := range l {
			for _, u := range l {
				v := orset.Apply(u, Since(s, u.Context))
				w := orset.Apply(s, Since(v, s.Context))
				if !orset.Same(v, w) || len(Since(v, w.Context).Entries) != 0 {
					t.Fatal(seed, v, w)
				}
			}
		}
	}
}

func TestP16_7Joined(t *testing.T) {
	for seed := 1; seed < 300; seed++ {
		l := sets(seed, 18)
		a, b := All(l[0]), All(l[1])
		j := Join(a, b)
		if !orset.RightDelta(j) || !slices.IsSortedFunc(j.Entries, func(x, y api.Entry) int {
			if dot.Less(x.Dot, y.Dot) {
				return -1
			}
			return 1
		}) {
			t.Fatal(seed, j)
		}
		for _, s := range append(l, api.Set{}) {
			if !orset.Same(orset.Apply(s, j), orset.Apply(orset.Apply(s, a), b)) {
				t.Fatal(seed, s, a, b)
			}
		}
	}
}

func TestP16_8NoNews(t *testing.T) {
	for seed := 1; seed < 100; seed++ {
		for _, s := range sets(seed, 20) {
			if News(s, All(s)) || News(s, Since(s, s.Context)) || News(orset.Apply(api.Set{}, All(s)), All(s)) {
				t.Fatal(seed, s)
			}
		}
	}
}
