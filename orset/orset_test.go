package orset_test

import (
	"math"
	"reflect"
	"slices"
	"testing"

	"gleaner/api"
	"gleaner/dot"
	. "gleaner/orset"
)

const a, b, c = `{a="1"}`, `{b="1"}`, `{c="1"}`

func d(node, n int) api.Dot { return api.Dot{Node: node, N: n} }

func entry(series string, at api.Dot, tick int) api.Entry {
	return api.Entry{Series: series, Dot: at, Tick: tick, Links: []api.Link{{Group: 1, Dot: at}}}
}

// set has these entries, and knows their dots and more.
func set(l []api.Entry, more ...api.Dot) api.Set {
	for _, e := range l {
		more = append(more, e.Dot)
	}
	return api.Set{Entries: l, Context: dot.From(more)}
}

func entries(l ...api.Entry) []api.Entry { return l }

// wrongEntries may not be.
func wrongEntries() []api.Entry {
	l := make([]api.Entry, 12)
	for i := range l {
		l[i] = entry(a, d(1, 1), 3)
	}
	l[0].Series = "a"
	l[1].Series = ""
	l[2].Dot.N = 0
	l[3].Dot.Node = 16
	l[4].Tick = -1
	l[5].Tick = api.MaxInt + 1
	l[6].Links[0].Group = 8
	l[7].Links[0].Group = -1
	l[8].Links[0].Dot.N = 0
	l[9].Links = append(l[9].Links, l[9].Links[0])
	l[10].Links = make([]api.Link, 9)
	l[11].Tick = math.MinInt
	return l
}

// wrongSets are not right.
func wrongSets() []api.Set {
	e, f := entry(a, d(1, 1), 0), entry(b, d(1, 2), 0)
	out := []api.Set{{Context: api.Context{Vector: []api.Dot{d(0, 0)}}}, {Entries: entries(e)}, set(entries(f, e)), set(entries(e, e)), {Entries: entries(e, f), Context: dot.From([]api.Dot{e.Dot})}}
	for _, w := range wrongEntries() {
		out = append(out, api.Set{Entries: entries(w), Context: dot.From([]api.Dot{w.Dot, d(1, 1)})})
	}
	return out
}

// wrongDeltas are no changes.
func wrongDeltas() []api.Delta {
	e, f := entry(a, d(1, 1), 0), entry(b, d(1, 2), 0)
	known := dot.From([]api.Dot{e.Dot, f.Dot})
	out := []api.Delta{{Alive: []api.Dot{d(1, 1)}}, {Entries: entries(e), Context: known}, {Entries: entries(e), Alive: []api.Dot{f.Dot}, Context: known}, {Alive: []api.Dot{f.Dot, e.Dot}, Context: known}, {Alive: []api.Dot{e.Dot, e.Dot}, Context: known}, {Alive: []api.Dot{d(1, 3)}, Context: known}}
	for _, s := range wrongSets() {
		var alive []api.Dot
		for _, e := range s.Entries {
			alive = append(alive, e.Dot)
		}
		out = append(out, api.Delta{Entries: s.Entries, Alive: alive, Context: s.Context})
	}
	return out
}

func TestP15_1Right(t *testing.T) {
	big := entry(a, d(15, api.MaxInt), api.MaxInt)
	for g := range 7 {
		big.Links = append(big.Links, api.Link{Group: g, Dot: d(0, 1)})
	}
	big.Links = append(big.Links[1:], api.Link{Group: 7, Dot: d(0, 1)})
	for _, s := range []api.Set{{}, set(nil, d(3, 3)), set(entries(entry(a, d(1, 1), 0), entry(a, d(1, 5), 0), entry(b, d(2, 1), 4)), d(0, 9)), set(entries(big))} {
		if !Right(s) {
			t.Error(s)
		}
	}
	for i, s := range wrongSets() {
		if Right(s) {
			t.Error(i, s)
		}
	}
	e, f := entry(a, d(1, 1), 0), entry(b, d(1, 2), 0)
	known := dot.From([]api.Dot{e.Dot, f.Dot})
	for _, x := range []api.Delta{{}, {Context: known}, {Alive: []api.Dot{e.Dot, f.Dot}, Context: known}, {Entries: entries(f), Alive: []api.Dot{e.Dot, f.Dot}, Context: known}} {
		if !RightDelta(x) {
			t.Error(x)
		}
	}
	for i, x := range wrongDeltas() {
		if RightDelta(x) {
			t.Error(i, x)
		}
	}
}

func TestP15_2Add(t *testing.T) {
	s := set(entries(entry(a, d(0, 2), 1), entry(b, d(1, 1), 1), entry(a, d(2, 1), 1)), d(0, 1))
	e := entry(a, d(1, 5), 7)
	got, change, code := Add(s, e)
	if want := set(entries(entry(b, d(1, 1), 1), e), d(0, 1), d(0, 2), d(2, 1)); code != api.OK || !reflect.DeepEqual(got, want) {
		t.Error(got, code)
	}
	if want := (api.Delta{Entries: entries(e), Alive: []api.Dot{e.Dot}, Context: dot.From([]api.Dot{d(0, 2), d(2, 1), e.Dot})}); !reflect.DeepEqual(change, want) {
		t.Error(change)
	}
	got.Entries[1].Links[0].Group, change.Entries[0].Links[0].Group = 5, 6
	if e.Links[0].Group != 1 || got.Entries[1].Links[0].Group != 5 {
		t.Error("memory is shared")
	}
	for _, at := range []api.Dot{d(0, 1), d(0, 2), d(1, 1)} {
		if got, change, code := Add(s, entry(c, at, 0)); code != api.ErrThere || !Same(got, s) || !reflect.DeepEqual(change, api.Delta{}) {
			t.Error(at, code)
		}
	}
	for _, w := range wrongEntries() {
		if got, change, code := Add(s, w); code != api.ErrArg || !Same(got, s) || !reflect.DeepEqual(change, api.Delta{}) {
			t.Error(w, code)
		}
	}
	for _, w := range wrongSets() {
		if got, _, code := Add(w, e); code != api.ErrArg || !reflect.DeepEqual(got, w) {
			t.Error(w, code)
		}
	}
}

func TestP15_3Remove(t *testing.T) {
	s := set(entries(entry(a, d(0, 2), 1), entry(b, d(1, 1), 1), entry(a, d(2, 1), 1)), d(0, 1))
	got, change := Remove(s, a, d(3, 1))
	if want := set(entries(entry(b, d(1, 1), 1)), d(0, 1), d(0, 2), d(2, 1), d(3, 1)); !reflect.DeepEqual(got, want) {
		t.Error(got)
	}
	if want := (api.Delta{Context: dot.From([]api.Dot{d(0, 2), d(2, 1), d(3, 1)})}); !reflect.DeepEqual(change, want) {
		t.Error(change)
	}
	for _, x := range []struct {
		series string
		at     api.Dot
	}{{c, d(3, 1)}, {"", d(3, 1)}, {a, d(0, 1)}, {a, d(0, 2)}, {a, d(16, 1)}, {a, d(0, 0)}} {
		if got, change := Remove(s, x.series, x.at); !Same(got, s) || !reflect.DeepEqual(change, api.Delta{}) {
			t.Error(x, got, change)
		}
	}
	for _, w := range wrongSets() {
		if got, change := Remove(w, a, d(9, 9)); !reflect.DeepEqual(got, w) || !reflect.DeepEqual(change, api.Delta{}) {
			t.Error(w)
		}
	}
}

func TestP15_4Expire(t *testing.T) {
	s := set(entries(entry(a, d(0, 2), 4), entry(b, d(1, 1), 5), entry(a, d(2, 1), 6)))
	got, change := Expire(s, 5, d(3, 1))
	if want := set(entries(entry(b, d(1, 1), 5), entry(a, d(2, 1), 6)), d(0, 2), d(3, 1)); !reflect.DeepEqual(got, want) {
		t.Error(got)
	}
	if want := (api.Delta{Context: dot.From([]api.Dot{d(0, 2), d(3, 1)})}); !reflect.DeepEqual(change, want) {
		t.Error(change)
	}
	for _, before := range []int{4, 0, -1, math.MinInt} {
		if got, change := Expire(s, before, d(3, 1)); !Same(got, s) || !reflect.DeepEqual(change, api.Delta{}) {
			t.Error(before, got, change)
		}
	}
	if got, _ := Expire(s, math.MaxInt, d(3, 1)); len(got.Entries) != 0 {
		t.Error(got)
	}
	if got, _ := Expire(s, 9, d(0, 2)); !Same(got, s) {
		t.Error(got)
	}
}

func TestP15_5Apply(t *testing.T) {
	e, f, g := entry(a, d(0, 2), 1), entry(b, d(1, 1), 1), entry(c, d(2, 1), 1)
	s := set(entries(e, f), d(3, 3))
	got := Apply(s, api.Delta{Entries: entries(g), Alive: []api.Dot{f.Dot, g.Dot}, Context: dot.From([]api.Dot{e.Dot, f.Dot, g.Dot, d(4, 1)})})
	if want := set(entries(f, g), e.Dot, d(3, 3), d(4, 1)); !reflect.DeepEqual(got, want) {
		t.Error(got)
	}
	if got := Apply(s, api.Delta{Entries: entries(entry(c, d(3, 3), 0)), Alive: []api.Dot{d(3, 3)}, Context: dot.From([]api.Dot{d(3, 3)})}); !Same(got, s) {
		t.Error("what went came back", got)
	}
	for _, x := range append(wrongDeltas(), api.Delta{Alive: []api.Dot{d(9, 1)}, Context: dot.From([]api.Dot{d(9, 1), e.Dot})}) {
		if got := Apply(s, x); !Same(got, s) {
			t.Error(x, got)
		}
	}
	for _, w := range wrongSets() {
		if got := Apply(w, api.Delta{Context: dot.From([]api.Dot{d(1, 1), d(9, 9)})}); !reflect.DeepEqual(got, w) {
			t.Error(w)
		}
	}
}

func TestP15_6Newest(t *testing.T) {
	s := api.Set{Entries: entries(entry(a, d(0, 2), 4), entry(b, d(1, 1), -5), entry(a, d(2, 1), 6), entry(a, d(2, 2), 5))}
	for series, want := range map[string]int{a: 6, b: 0} {
		if n, ok := Newest(s, series); n != want || !ok {
			t.Error(series, n, ok)
		}
	}
	if n, ok := Newest(s, c); n != 0 || ok {
		t.Error(n, ok)
	}
}

func TestP15_7List(t *testing.T) {
	s := api.Set{Entries: entries(entry(b, d(0, 2), 4), entry(a, d(1, 1), 5), entry(b, d(2, 1), 6))}
	if l := List(s); !slices.Equal(l, []string{a, b}) || len(List(api.Set{})) != 0 {
		t.Error(l)
	}
}

func TestP15_8Same(t *testing.T) {
	s := set(entries(entry(a, d(0, 2), 4)), d(1, 1))
	if !Same(s, set(entries(entry(a, d(0, 2), 4)), d(1, 1))) || !Same(api.Set{}, api.Set{Entries: []api.Entry{}}) {
		t.Error("not the same")
	}
	other := entry(a, d(0, 2), 4)
	other.Links[0].Group = 2
	for _, x := range []api.Set{{}, set(entries(entry(b, d(0, 2), 4)), d(1, 1)), set(entries(entry(a, d(0, 3), 4)), d(0, 2), d(1, 1)), set(entries(entry(a, d(0, 2), 5)), d(1, 1)), set(entries(entry(a, d(0, 2), 4))), set(entries(other), d(1, 1)), set(nil, d(0, 2), d(1, 1))} {
		if Same(s, x) || Same(x, s) {
			t.Error(x)
		}
	}
}

// history is what three places did to sets of their own, by a rule, where each heard some changes of the others; it tells all changes, and what each place was behind each of its own.
func history(t *testing.T, seed int) []api.Delta {
	next := func(n int) int {
		seed = (seed*1103 + 12345) % 65521
		return seed % n
	}
	var l []api.Delta
	sets := make([]api.Set, 3)
	made := make([]int, 3)
	for range 25 {
		i := next(3)
		before, change := sets[i], api.Delta{}
		series := []string{a, b, c}[next(3)]
		switch next(6) {
		case 0, 1:
			sets[i], change, _ = Add(before, entry(series, d(i, made[i]+1), next(9)))
		case 2:
			sets[i], change = Remove(before, series, d(i, made[i]+1))
		case 3:
			sets[i], change = Expire(before, next(5), d(i, made[i]+1))
		default:
			if len(l) > 0 {
				sets[i] = Apply(before, l[next(len(l))])
			}
		}
		if dot.Has(change.Context, d(i, made[i]+1)) {
			made[i]++
			l = append(l, change)
			if !Same(sets[i], Apply(before, change)) {
				t.Fatal("P15.9", before, change)
			}
		}
		if !Right(sets[i]) {
			t.Fatal(sets[i])
		}
	}
	return l
}

func TestP15_9AtHomeIsToApply(t *testing.T) {
	for seed := 1; seed < 200; seed++ {
		history(t, seed)
	}
}

// applied is what comes of changes, in the order of a rule, some of them twice.
func applied(l []api.Delta, step int) api.Set {
	var s api.Set
	for i := range l {
		s = Apply(s, l[(i*step)%len(l)])
		s = Apply(s, l[(i*i)%len(l)])
	}
	for _, x := range l {
		s = Apply(s, x)
	}
	return s
}

func TestP15_10AnyOrder(t *testing.T) {
	for seed := 1; seed < 200; seed++ {
		l := history(t, seed)
		if len(l) == 0 {
			continue
		}
		turned := slices.Clone(l)
		slices.Reverse(turned)
		s := applied(l, 1)
		for step := 1; step < 8; step++ {
			if !Same(s, applied(l, step)) || !Same(s, applied(turned, step)) {
				t.Fatal(seed, step)
			}
		}
	}
}

func TestP15_11AddWins(t *testing.T) {
	one, add, _ := Add(api.Set{}, entry(a, d(0, 1), 0))
	other, second, _ := Add(api.Set{}, entry(a, d(1, 1), 0))
	gone, remove := Remove(other, a, d(1, 2))
	for _, s := range []api.Set{Apply(gone, add), Apply(Apply(one, remove), second), Apply(Apply(one, second), remove)} {
		if l := List(s); !slices.Equal(l, []string{a}) || len(s.Entries) != 1 {
			t.Error(l)
		}
	}
	both := Apply(one, second)
	if s, _ := Remove(both, a, d(2, 1)); len(List(s)) != 0 {
		t.Error(s)
	}
	for seed := 1; seed < 200; seed++ {
		l := history(t, seed)
		if len(l) == 0 {
			continue
		}
		s := applied(l, 1)
		for _, x := range l {
			for _, e := range x.Entries {
				removed := slices.ContainsFunc(l, func(y api.Delta) bool { return dot.Has(y.Context, e.Dot) && !slices.Contains(y.Alive, e.Dot) })
				there := slices.ContainsFunc(s.Entries, func(y api.Entry) bool { return y.Dot == e.Dot })
				if there == removed {
					t.Fatal(seed, e, there, removed)
				}
			}
		}
	}
}
