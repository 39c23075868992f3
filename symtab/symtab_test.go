package symtab_test

import (
	"math"
	"reflect"
	"slices"
	"strings"
	"testing"

	"gleaner/api"
	. "gleaner/symtab"
)

// table has the symbols of texts, each used as often as it stands there; an empty one is free.
func table(room int, l ...string) api.Symbols {
	t := New(room)
	for _, s := range l {
		refs := 1
		if s == "" {
			refs = 0
		}
		t.List = append(t.List, api.Symbol{Text: s, Refs: refs})
	}
	return t
}

// wrong are tables that are not right.
func wrong() []api.Symbols {
	return []api.Symbols{
		{Cap: -1}, {Cap: api.MaxSymbols + 1}, table(1, "a", "b"), table(9, "a", "b", "a"),
		{Cap: 3, List: []api.Symbol{{Text: "a", Refs: -1}}}, {Cap: 3, List: []api.Symbol{{Text: "a"}}}, {Cap: 3, List: []api.Symbol{{Text: "a", Refs: api.MaxInt + 1}}},
		{Cap: 3, List: []api.Symbol{{Text: strings.Repeat("a", 601), Refs: 1}}}, {Cap: 3, List: []api.Symbol{{Refs: 1}, {Refs: 1}}}, {Cap: math.MinInt}, {Cap: 3, List: []api.Symbol{{Refs: math.MinInt}}},
	}
}

func same(a, b api.Symbols) bool {
	return a.Cap == b.Cap && slices.Equal(a.List, b.List)
}

func TestP4_1New(t *testing.T) {
	for room, want := range map[int]int{0: 0, 7: 7, -1: 0, api.MaxSymbols: 24000, 24001: 24000, math.MaxInt: 24000, math.MinInt: 0} {
		if x := New(room); x.Cap != want || len(x.List) != 0 {
			t.Error(room, x)
		}
	}
}

func TestP4_2Right(t *testing.T) {
	for _, x := range []api.Symbols{{}, New(3), table(3, "a", "", "b"), table(2, "", ""), {Cap: 1, List: []api.Symbol{{Refs: 1}}}, {Cap: 3, List: []api.Symbol{{Text: strings.Repeat("a", 600), Refs: api.MaxInt}, {}, {Refs: 1}}}} {
		if !Right(x) {
			t.Error(x)
		}
	}
	for _, x := range wrong() {
		if Right(x) {
			t.Error(x)
		}
	}
}

func TestP4_3Put(t *testing.T) {
	full := api.Symbols{Cap: 3, List: []api.Symbol{{Text: "a", Refs: api.MaxInt}, {}}}
	for _, c := range []struct {
		t    api.Symbols
		s    string
		want api.Symbols
		id   int
		code api.Errno
	}{
		{table(2, "a"), "a", api.Symbols{Cap: 2, List: []api.Symbol{{Text: "a", Refs: 2}}}, 0, api.OK},
		{table(2, "a"), "b", table(2, "a", "b"), 1, api.OK},
		{table(3, "a", "", ""), "b", table(3, "a", "b", ""), 1, api.OK},
		{table(2, "a", ""), "b", table(2, "a", "b"), 1, api.OK},
		{New(1), "", api.Symbols{Cap: 1, List: []api.Symbol{{Refs: 1}}}, 0, api.OK},
		{api.Symbols{Cap: 2, List: []api.Symbol{{}, {Refs: 1}}}, "", api.Symbols{Cap: 2, List: []api.Symbol{{}, {Refs: 2}}}, 1, api.OK},
		{table(1, "a"), "b", table(1, "a"), 0, api.ErrFull}, {New(0), "a", New(0), 0, api.ErrFull},
		{full, "a", full, 0, api.ErrFull}, {full, "b", api.Symbols{Cap: 3, List: []api.Symbol{full.List[0], {Text: "b", Refs: 1}}}, 1, api.OK},
		{New(1), strings.Repeat("x", 601), New(1), 0, api.ErrLong}, {New(1), strings.Repeat("x", 600), table(1, strings.Repeat("x", 600)), 0, api.OK},
	} {
		before := slices.Clone(c.t.List)
		got, id, code := Put(c.t, c.s)
		if !same(got, c.want) || id != c.id || code != c.code {
			t.Errorf("Put(%v, %q): %v %d %d", c.t, c.s, got, id, code)
		}
		if !slices.Equal(before, c.t.List) {
			t.Error("changed", before)
		}
	}
	for _, w := range wrong() {
		if got, id, code := Put(w, strings.Repeat("x", 700)); !reflect.DeepEqual(got, w) || id != 0 || code != api.ErrArg {
			t.Error(w, got, id, code)
		}
	}
}

func TestP4_4FindAndText(t *testing.T) {
	x := api.Symbols{List: []api.Symbol{{Text: "a"}, {Text: "b", Refs: 1}, {Text: "a", Refs: 2}, {Text: "a", Refs: 3}, {Text: "c", Refs: -1}}}
	for s, want := range map[string]int{"a": 2, "b": 1, "c": -1, "": -1} {
		if id, ok := Find(x, s); ok != (want >= 0) || id != max(want, 0) {
			t.Error(s, id, ok)
		}
	}
	for id, want := range map[int]string{1: "b", 2: "a", 0: "", 4: "", -1: "", 5: "", math.MaxInt: ""} {
		if s, ok := Text(x, id); s != want || ok != (want != "") {
			t.Error(id, s, ok)
		}
	}
}

func TestP4_5Drop(t *testing.T) {
	x := api.Symbols{Cap: 3, List: []api.Symbol{{Text: "a", Refs: 2}, {}}}
	y, code := Drop(x, 0)
	if code != api.OK || !same(y, table(3, "a", "")) || x.List[0].Refs != 2 {
		t.Error(y, code)
	}
	y, code = Drop(y, 0)
	if code != api.OK || !same(y, table(3, "", "")) {
		t.Error(y, code)
	}
	for _, id := range []int{1, 2, -1, math.MaxInt} {
		if z, code := Drop(x, id); code != api.ErrNone || !same(z, x) {
			t.Error(id, z, code)
		}
	}
	for _, w := range wrong() {
		if z, code := Drop(w, 0); code != api.ErrArg || !reflect.DeepEqual(z, w) {
			t.Error(w, z, code)
		}
	}
}

func TestP4_6Sorted(t *testing.T) {
	if got := Sorted(table(9, "b", "", "a", "c", "aa")); !slices.Equal(got, []int{2, 4, 0, 3}) {
		t.Error(got)
	}
	if got := Sorted(api.Symbols{List: []api.Symbol{{Text: "a", Refs: -3}, {Text: "", Refs: 1}}}); !slices.Equal(got, []int{1}) {
		t.Error(got)
	}
}

func TestP4_7Compact(t *testing.T) {
	x, now := Compact(table(9, "c", "", "a"))
	if !same(x, table(9, "c", "a")) || !slices.Equal(now, []int{0, -1, 1}) {
		t.Error(x, now)
	}
	for _, w := range wrong() {
		if z, now := Compact(w); !reflect.DeepEqual(z, w) || len(now) != 0 {
			t.Error(w, z, now)
		}
	}
}

// TestP4_8OneNumber puts and drops at random, by a rule, and keeps count beside the table.
func TestP4_8OneNumber(t *testing.T) {
	x, seed := New(5), 1
	count, number := map[string]int{}, map[string]int{}
	for range 3000 {
		seed = (seed*1103 + 12345) % 65521
		s := string(rune('a' + seed%7))
		if seed/7%2 == 0 {
			y, id, code := Put(x, s)
			if count[s] > 0 && (code != api.OK || id != number[s]) {
				t.Fatal(s, id, code)
			}
			if code == api.OK {
				count[s]++
				number[s] = id
			} else if code != api.ErrFull || !same(x, y) {
				t.Fatal(s, code)
			}
			x = y
		} else if count[s] > 0 {
			x, _ = Drop(x, number[s])
			count[s]--
		}
		for s, n := range count {
			id, ok := Find(x, s)
			if ok != (n > 0) || ok && (id != number[s] || x.List[id].Refs != n) {
				t.Fatal(s, n, id, ok)
			}
		}
		if !Right(x) {
			t.Fatal(x)
		}
	}
}

func TestP4_9Refused(t *testing.T) {
	x := table(2, "a", "b")
	if y, _, code := Put(x, "c"); code != api.ErrFull || !same(x, y) || !same(x, table(2, "a", "b")) {
		t.Error(y, code)
	}
	if y, code := Drop(x, 7); code != api.ErrNone || !same(x, y) {
		t.Error(y, code)
	}
}

func TestP4_10NumbersAlone(t *testing.T) {
	x := table(9, "", "b", "", "a", "c", "")
	y, now := Compact(x)
	for id := range x.List {
		s, ok := Text(x, id)
		if !ok != (now[id] == -1) {
			t.Error(id, now)
		}
		if u, there := Text(y, now[id]); u != s || there != ok {
			t.Error(id, s, u)
		}
	}
	if z, again := Compact(y); !same(y, z) || !slices.Equal(again, []int{0, 1, 2}) || z.Cap != x.Cap {
		t.Error(z, again)
	}
}
