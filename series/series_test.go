package series_test

import (
	"fmt"
	"math"
	"reflect"
	"slices"
	"testing"

	"gleaner/api"
	. "gleaner/series"
	"gleaner/symtab"
)

const a1, a2, ab = `{a="1"}`, `{a="2"}`, `{a="1",b="a"}`

// table has these series, put one behind the other.
func table(t *testing.T, l ...string) api.Table {
	x := New()
	for _, s := range l {
		y, _, code := Put(x, s)
		if code != api.OK {
			t.Fatal(s, code)
		}
		x = y
	}
	return x
}

func same(a, b api.Table) bool {
	return a.Symbols.Cap == b.Symbols.Cap && slices.Equal(a.Symbols.List, b.Symbols.List) && slices.EqualFunc(a.Rows, b.Rows, func(x, y api.Row) bool { return x.Refs == y.Refs && slices.Equal(x.Ids, y.Ids) })
}

func symbols(l ...any) []api.Symbol {
	var out []api.Symbol
	for i := 0; i+1 < len(l); i += 2 {
		out = append(out, api.Symbol{Text: l[i].(string), Refs: l[i+1].(int)})
	}
	return out
}

// odd is a table with symbols a, 1, A, b, and just these rows.
func odd(rows ...api.Row) api.Table {
	x := api.Table{Symbols: symtab.New(9), Rows: rows}
	x.Symbols.List = symbols("a", 1, "1", 1, "A", 1, "b", 1, "", 0)
	return x
}

func TestP17_1New(t *testing.T) {
	if x := New(); len(x.Rows) != 0 || len(x.Symbols.List) != 0 || x.Symbols.Cap != 24000 {
		t.Error(x)
	}
}

func TestP17_2Right(t *testing.T) {
	good := table(t, a1, a2, ab)
	dropped, _ := Drop(good, 1)
	twice := table(t, a1, a1)
	twice.Rows[0].Refs = api.MaxInt
	for _, x := range []api.Table{{}, New(), good, dropped, twice, {Rows: make([]api.Row, 4000)}} {
		if !Right(x) {
			t.Error(x)
		}
	}
	l := make([]api.Table, 14)
	for i := range l {
		l[i] = table(t, a1, a2, ab)
	}
	l[0].Symbols.List[0].Refs++
	l[1].Symbols.List[0].Refs--
	l[2].Rows[0].Refs = 0
	l[3].Rows[0].Refs = -1
	l[4].Rows[0].Refs = api.MaxInt + 1
	l[5].Rows[0].Ids = nil
	l[6].Rows[0].Ids = []int{0, 77}
	l[7].Rows[0].Ids = []int{0, 1, 0}
	l[8].Rows[1].Ids = l[8].Rows[0].Ids
	l[9].Symbols.Cap = 1
	l[10].Rows = append(l[10].Rows, api.Row{Refs: -1})
	l[11].Rows = append(l[11].Rows, api.Row{Ids: []int{0, 1}})
	l[12].Rows = append(l[12].Rows, make([]api.Row, 3998)...)
	l[13].Rows[2].Ids = []int{3, 0, 0, 1}
	for i, x := range l {
		if Right(x) {
			t.Error(i, x)
		}
	}
	again := odd(api.Row{Ids: []int{0, 1}, Refs: 1}, api.Row{Ids: []int{0, 1}, Refs: 1})
	again.Symbols.List = symbols("a", 2, "1", 2)
	if Right(again) {
		t.Error("two rows have one text")
	}
	third := odd(api.Row{Ids: []int{0, 1, 0}, Refs: 1})
	third.Symbols.List = symbols("a", 2, "1", 1)
	if Right(third) {
		t.Error("a name stands without a value")
	}
}

func TestP17_3LabelsTextFind(t *testing.T) {
	x := odd(api.Row{Ids: []int{0, 1}}, api.Row{Ids: []int{0, 1}, Refs: 2}, api.Row{Ids: []int{0, 4}, Refs: 1}, api.Row{Ids: []int{2, 1}, Refs: 1}, api.Row{Refs: 1}, api.Row{Ids: []int{3, 1, 0, 1}, Refs: 1}, api.Row{Ids: []int{0, 1, 3, 0}, Refs: 1}, api.Row{Ids: []int{0, 1}, Refs: -1}, api.Row{Ids: []int{0, 1}, Refs: 1})
	for id, want := range map[int]string{1: a1, 6: ab, 8: a1, 0: "", 2: "", 3: "", 4: "", 5: "", 7: "", 9: "", -1: "", math.MaxInt: "", math.MinInt: ""} {
		if s, ok := Text(x, id); s != want || ok != (want != "") {
			t.Error(id, s, ok)
		}
	}
	for id, want := range map[int][]api.Label{1: {{Name: "a", Value: "1"}}, 3: {{Name: "A", Value: "1"}}, 4: {}, 5: {{Name: "b", Value: "1"}, {Name: "a", Value: "1"}}, 0: nil, 2: nil, 7: nil, 9: nil, -1: nil} {
		if l, ok := Labels(x, id); !slices.Equal(l, want) || ok != (want != nil) {
			t.Error(id, l, ok)
		}
	}
	for s, want := range map[string]int{a1: 1, ab: 6, a2: -1, "": -1, `{A="1"}`: -1, `{b="1",a="1"}`: -1} {
		if id, ok := Find(x, s); id != max(want, 0) || ok != (want >= 0) {
			t.Error(s, id, ok)
		}
	}
}

func TestP17_4Put(t *testing.T) {
	x := table(t, a1)
	y, id, code := Put(x, a2)
	if code != api.OK || id != 1 || !slices.Equal(y.Symbols.List, symbols("a", 2, "1", 1, "2", 1)) || !same(x, table(t, a1)) {
		t.Error(y, id, code)
	}
	if y, id, code := Put(x, a1); code != api.OK || id != 0 || y.Rows[0].Refs != 2 || y.Symbols.List[0].Refs != 1 {
		t.Error(y, id, code)
	}
	y, _ = Drop(y, 0)
	if z, id, code := Put(y, ab); code != api.OK || id != 0 || !reflect.DeepEqual(z.Rows[0], api.Row{Ids: []int{0, 1, 3, 0}, Refs: 1}) {
		t.Error(z, id, code)
	}
	for _, s := range []string{"", "a", `{b="1",a="1"}`} {
		if y, id, code := Put(x, s); code != api.ErrLabel || id != 0 || !same(x, y) {
			t.Error(s, code)
		}
	}
	x.Rows[0].Refs = api.MaxInt
	if y, id, code := Put(x, a1); code != api.ErrFull || id != 0 || !same(x, y) {
		t.Error(y, code)
	}
	few := api.Table{Symbols: symtab.New(3)}
	few, _, _ = Put(few, a1)
	if y, id, code := Put(few, `{b="1",c="2"}`); code != api.ErrFull || id != 0 || !same(few, y) {
		t.Error(y, code)
	}
	full := New()
	for i := range 4000 {
		full, _, _ = Put(full, fmt.Sprintf(`{a="%d"}`, i))
	}
	if y, id, code := Put(full, ab); code != api.ErrFull || id != 0 || !same(full, y) || len(full.Rows) != 4000 {
		t.Error(id, code)
	}
	if y, id, code := Put(full, `{a="70"}`); code != api.OK || id != 70 || y.Rows[70].Refs != 2 {
		t.Error(id, code)
	}
}

func TestP17_5Drop(t *testing.T) {
	x := table(t, a1, a2, a2)
	y, code := Drop(x, 1)
	if code != api.OK || y.Rows[1].Refs != 1 || !slices.Equal(y.Symbols.List, x.Symbols.List) || x.Rows[1].Refs != 2 {
		t.Error(y, code)
	}
	y, code = Drop(y, 0)
	if code != api.OK || !reflect.DeepEqual(y.Rows[0], api.Row{}) || !slices.Equal(y.Symbols.List, symbols("a", 1, "", 0, "2", 1)) {
		t.Error(y, code)
	}
	for _, id := range []int{0, 2, -1, math.MaxInt} {
		if z, code := Drop(y, id); code != api.ErrNone || !same(y, z) {
			t.Error(id, code)
		}
	}
}

// TestP17_6OneNumber puts and drops by a rule, and keeps count beside the table; P17.7 holds at each step.
func TestP17_6And7OneNumber(t *testing.T) {
	x, seed := New(), 3
	count, number := map[string]int{}, map[string]int{}
	for range 1500 {
		seed = (seed*1103 + 12345) % 65521
		s := fmt.Sprintf(`{a="%d",b%d="a"}`, seed%3, seed/3%2)
		if seed/6%2 == 0 {
			y, id, code := Put(x, s)
			if code != api.OK || count[s] > 0 && id != number[s] {
				t.Fatal(s, code)
			}
			count[s]++
			number[s], x = id, y
		} else if count[s] > 0 {
			x, _ = Drop(x, number[s])
			count[s]--
		}
		for s, n := range count {
			id, ok := Find(x, s)
			if text, there := Text(x, number[s]); ok != (n > 0) || ok && (id != number[s] || text != s || !there || x.Rows[id].Refs != n) {
				t.Fatal(s, n, id, ok)
			}
		}
		if !Right(x) {
			t.Fatal(x)
		}
	}
	for s, n := range count {
		for range n {
			x, _ = Drop(x, number[s])
		}
	}
	if len(symtab.Sorted(x.Symbols)) != 0 || !Right(x) {
		t.Error(x)
	}
}
