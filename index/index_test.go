package index_test

import (
	"fmt"
	"reflect"
	"slices"
	"testing"

	"gleaner/api"
	. "gleaner/index"
	"gleaner/label"
	"gleaner/matcher"
	"gleaner/series"
	"gleaner/symtab"
)

const a1, a2b = `{a="1"}`, `{a="2",b="x"}`

// index has these series, added one behind the other.
func index(t *testing.T, l ...string) api.Index {
	x := New()
	for _, s := range l {
		y, code := Add(x, s)
		if code != api.OK {
			t.Fatal(s, code)
		}
		x = y
	}
	return x
}

// some are texts of series by a rule.
func some(i int) string {
	switch i % 4 {
	case 0:
		return fmt.Sprintf(`{a="%d"}`, i/4%5)
	case 1:
		return fmt.Sprintf(`{a="%d",b="%d"}`, i/4%3, i/12%3)
	case 2:
		return fmt.Sprintf(`{b="a",c="%d"}`, i/4%4)
	}
	return fmt.Sprintf(`{a="b",b="%d",c="x%d"}`, i/4%3, i%5)
}

func TestP18_1New(t *testing.T) {
	if x := New(); !reflect.DeepEqual(x, api.Index{Table: series.New()}) {
		t.Error(x)
	}
}

func TestP18_2Whole(t *testing.T) {
	gone, _ := Remove(index(t, a1, a2b), a1)
	for _, x := range []api.Index{{}, New(), index(t, a1, a2b), gone} {
		if !Whole(x) {
			t.Error(x)
		}
	}
	l := make([]api.Index, 12)
	for i := range l {
		l[i] = index(t, a1, a2b, `{a="2"}`)
	}
	l[0].All = l[0].All[:2]
	l[1].All[0], l[1].All[1] = 1, 0
	l[2].Posts = l[2].Posts[1:]
	l[3].Posts[0], l[3].Posts[1] = l[3].Posts[1], l[3].Posts[0]
	l[4].Posts[1].List = []int{2, 1}
	l[5].Posts[1].List = []int{1}
	l[6].Posts = append(l[6].Posts, api.Post{Name: 9, Value: 9})
	l[7].Table, _, _ = series.Put(l[7].Table, a1)
	l[8].Table, _ = series.Drop(l[8].Table, 0)
	l[9].Table.Symbols.List[0].Refs++
	l[10].Posts[0].Value++
	l[11].Posts[0].Name = -1 << 63
	for i, x := range l {
		if Whole(x) {
			t.Error(i)
		}
	}
}

func TestP18_3And4AddRemove(t *testing.T) {
	x := index(t, a1, a2b)
	want := []api.Post{{Name: 0, Value: 1, List: []int{0}}, {Name: 0, Value: 2, List: []int{1}}, {Name: 3, Value: 4, List: []int{1}}}
	if !reflect.DeepEqual(x.Posts, want) || !slices.Equal(x.All, []int{0, 1}) {
		t.Error(x)
	}
	if y, code := Add(x, a1); code != api.ErrThere || !reflect.DeepEqual(x, y) {
		t.Error(code)
	}
	if y, code := Add(x, `{b="1",a="1"}`); code != api.ErrLabel || !reflect.DeepEqual(x, y) {
		t.Error(code)
	}
	few := x
	few.Table.Symbols.Cap = 5
	if y, code := Add(few, `{c="1"}`); code != api.ErrFull || !reflect.DeepEqual(few, y) {
		t.Error(code)
	}
	y, code := Remove(x, a1)
	if code != api.OK || !reflect.DeepEqual(y.Posts, want[1:]) || !slices.Equal(y.All, []int{1}) || !reflect.DeepEqual(x.Posts, want) {
		t.Error(y, code)
	}
	for _, s := range []string{a1, "", "x"} {
		if z, code := Remove(y, s); code != api.ErrNone || !reflect.DeepEqual(z, y) {
			t.Error(s, code)
		}
	}
}

func TestP18_5NamesAndValues(t *testing.T) {
	x := index(t, `{b="2"}`, `{b="1"}`, a2b, a1)
	for name, want := range map[string][]string{"a": {"1", "2"}, "b": {"1", "2", "x"}, "c": nil, "1": nil, "": nil} {
		if l := Values(x, name); !slices.Equal(l, want) {
			t.Error(name, l)
		}
	}
	if l := Names(x); !slices.Equal(l, []string{"a", "b"}) {
		t.Error(l)
	}
}

func TestP18_6Get(t *testing.T) {
	x := index(t, a1, a2b, `{a="2"}`)
	l := Get(x, "a", "2")
	if !slices.Equal(l, []int{1, 2}) || Get(x, "a", "x") != nil || Get(x, "c", "") != nil || Get(x, "a", "") != nil {
		t.Error(l)
	}
	l[0] = 9
	if !Whole(x) {
		t.Error("memory is shared")
	}
}

func TestP18_7Pick(t *testing.T) {
	x := index(t, a1, a2b, `{b="1"}`)
	for _, c := range []struct {
		m    api.Matcher
		want bool
		ids  []int
	}{
		{api.Matcher{Kind: api.MatchRx, Name: "a", Value: "1|3"}, true, []int{0}}, {api.Matcher{Kind: api.MatchRx, Name: "a", Value: "1|3"}, false, []int{1}}, {api.Matcher{Kind: api.MatchNot, Name: "b", Value: "x"}, true, []int{2}},
		{api.Matcher{Kind: api.MatchEq, Name: "a"}, true, nil}, {api.Matcher{Kind: api.MatchEq, Name: "a"}, false, []int{0, 1}}, {api.Matcher{Kind: api.MatchRx, Name: "c", Value: ".*"}, true, nil},
	} {
		if ids, code := Pick(x, c.m, c.want); code != api.OK || !slices.Equal(ids, c.ids) {
			t.Error(c, ids, code)
		}
	}
	for m, want := range map[api.Matcher]api.Errno{{}: api.ErrArg, {Kind: api.MatchEq}: api.ErrLabel, {Kind: api.MatchRx, Name: "a", Value: "("}: api.ErrSyntax, {Kind: api.MatchRx, Name: "a", Value: "(a{20}){20}"}: api.ErrComplex} {
		if ids, code := Pick(x, m, true); code != want || ids != nil {
			t.Error(m, code)
		}
	}
}

func TestP18_8StaysWhole(t *testing.T) {
	x, there := New(), map[string]int{}
	for i := range 400 {
		s := some(i * 7)
		if _, ok := there[s]; ok && i%3 > 0 {
			x, _ = Remove(x, s)
			delete(there, s)
		} else if !ok {
			x, _ = Add(x, s)
			there[s] = i
		}
		if !Whole(x) || len(x.All) != len(there) {
			t.Fatal(i, s)
		}
	}
}

func TestP18_9PickedIsWhatAllShow(t *testing.T) {
	var l []string
	for i := range 60 {
		if s := some(i); !slices.Contains(l, s) {
			l = append(l, s)
		}
	}
	x := index(t, l...)
	for _, s := range []string{l[3], l[8], l[20]} {
		x, _ = Remove(x, s)
	}
	for _, name := range []string{"a", "b", "c", "d"} {
		for _, v := range []string{"1", "", "1|2|x1", "[a-c]", ".+", "(0|b).*"} {
			for kind := api.MatchEq; kind <= api.MatchNrx; kind++ {
				m := api.Matcher{Kind: kind, Name: name, Value: v}
				for _, want := range []bool{true, false} {
					var ids []int
					for id := range x.Table.Rows {
						labels, ok := series.Labels(x.Table, id)
						if value := label.Value(labels, name); ok && value != "" && matcher.Accepts(m, value) == want {
							ids = append(ids, id)
						}
					}
					if got, code := Pick(x, m, want); code != api.OK || !slices.Equal(got, ids) {
						t.Error(m, want, got, ids)
					}
				}
			}
		}
	}
}

func TestP18_10AllGone(t *testing.T) {
	x := New()
	for i := range 40 {
		x, _ = Add(x, some(i))
	}
	for i := range 40 {
		x, _ = Remove(x, some(39-i))
	}
	if len(x.Posts) != 0 || len(x.All) != 0 || len(Names(x)) != 0 || len(symtab.Sorted(x.Table.Symbols)) != 0 || !Whole(x) {
		t.Error(x)
	}
}
