package coord_test

import (
	"math"
	"reflect"
	"slices"
	"testing"

	"gleaner/api"
	. "gleaner/coord"
	"gleaner/plan"
)

func m(kind int, name, value string) api.Matcher {
	return api.Matcher{Kind: kind, Name: name, Value: value}
}

const a, b, ab = `{a="1"}`, `{b="2"}`, `{a="1",b="2"}`

// begin is a query with asks of a and of b.
func begin(t *testing.T, now int) api.Query {
	q, code := Begin(7, []api.Matcher{m(api.MatchEq, "b", "2"), m(api.MatchEq, "a", "1")}, 4, now)
	if code != api.OK {
		t.Fatal(code)
	}
	return q
}

func TestP25_1Begin(t *testing.T) {
	l := []api.Matcher{m(api.MatchEq, "b", "2"), m(api.MatchEq, "a", "1")}
	q, code := Begin(7, l, 4, 9)
	asks, _ := plan.Make(l, 4)
	for i := range asks {
		asks[i].Since, asks[i].Tries = 9, 1
	}
	if code != api.OK || !reflect.DeepEqual(q, api.Query{Number: 7, Matchers: l, Asks: asks}) || len(asks) != 2 {
		t.Error(q, code)
	}
	l[0].Name = "x"
	if q.Matchers[0].Name != "b" {
		t.Error("memory is shared")
	}
	if q, code := Begin(7, make([]api.Matcher, 6), 4, 9); code != api.ErrLong || !reflect.DeepEqual(q, api.Query{}) {
		t.Error(code)
	}
}

func TestP25_2Node(t *testing.T) {
	c := api.Config{Nodes: 3, Groups: 4, Copies: 2, Life: 1}
	for turn, want := range map[int]int{0: 2, 1: 0, 2: 2, 7: 0, math.MaxInt: 0} {
		if n, ok := Node(c, api.Ask{Group: 2, Turn: turn}); n != want || !ok {
			t.Error(turn, n, ok)
		}
	}
	for _, x := range []api.Ask{{Group: 2, Turn: -1}, {Group: 4}, {Group: -1}, {Turn: math.MinInt}} {
		if n, ok := Node(c, x); n != 0 || ok {
			t.Error(x, n, ok)
		}
	}
	if n, ok := Node(api.Config{}, api.Ask{}); n != 0 || ok {
		t.Error(n, ok)
	}
}

func TestP25_3Settle(t *testing.T) {
	q := begin(t, 0)
	if got := Settle(q); !reflect.DeepEqual(got, q) {
		t.Error(got)
	}
	// What a shard told too much is not chosen.
	q.Asks[0].Done, q.Asks[0].Series = true, []string{ab, a, b}
	q.Asks[1].Done, q.Asks[1].Series = true, []string{ab, a}
	got := Settle(q)
	if !got.Done || got.Error != api.OK || !slices.Equal(got.Series, []string{ab}) || !reflect.DeepEqual(got.Asks, q.Asks) || q.Done {
		t.Error(got)
	}
	q.Asks[0].Error = api.ErrTime
	if got := Settle(q); !got.Done || got.Error != api.ErrTime || len(got.Series) != 0 {
		t.Error(got)
	}
	q.Done = true
	if got := Settle(q); !reflect.DeepEqual(got, q) {
		t.Error(got)
	}
}

func TestP25_4Tell(t *testing.T) {
	q := begin(t, 0)
	one := Tell(q, 1, []string{ab, b}, api.OK)
	if one.Done || !one.Asks[1].Done || !slices.Equal(one.Asks[1].Series, []string{ab, b}) || q.Asks[1].Done {
		t.Error(one)
	}
	both := Tell(one, 0, []string{ab, a}, api.OK)
	if !both.Done || !slices.Equal(both.Series, []string{ab}) {
		t.Error(both)
	}
	wrong := Tell(q, 1, []string{ab, b}, api.ErrComplex)
	if !wrong.Done || wrong.Error != api.ErrComplex || len(wrong.Asks[1].Series)+len(wrong.Series) != 0 {
		t.Error(wrong)
	}
	for i, got := range []api.Query{Tell(q, 2, nil, api.OK), Tell(q, -1, nil, api.OK), Tell(q, math.MinInt, nil, api.OK), Tell(q, 0, []string{b, a}, api.OK), Tell(q, 0, []string{a, a}, api.OK), Tell(q, 0, nil, api.ErrState)} {
		if !reflect.DeepEqual(got, q) {
			t.Error(i, got)
		}
	}
	if got := Tell(one, 1, []string{a}, api.OK); !reflect.DeepEqual(got, one) {
		t.Error(got)
	}
}

func TestP25_5Due(t *testing.T) {
	q := begin(t, 4)
	for now, want := range map[int]int{4: 0, 9: 0, 10: 2, 11: 2, math.MaxInt: 2, 0: 0, math.MinInt: 0} {
		got, l := Due(q, now)
		if len(l) != want || want == 0 && !reflect.DeepEqual(got, q) {
			t.Error(now, l)
		}
		if want == 2 && (got.Asks[1].Tries != 2 || got.Asks[1].Turn != 1 || got.Asks[1].Since != now || !slices.Equal(l, []int{0, 1})) {
			t.Error(now, got)
		}
	}
	early := begin(t, -5)
	if _, l := Due(early, 5); len(l) != 0 {
		t.Error("now is below 6")
	}
	part := Tell(q, 0, nil, api.OK)
	if got, l := Due(part, 10); !slices.Equal(l, []int{1}) || got.Asks[0].Tries != 1 {
		t.Error(got, l)
	}
	q.Asks[0].Tries, q.Asks[0].Series = 4, []string{a}
	got, l := Due(q, 10)
	if len(l) != 0 || !got.Done || got.Error != api.ErrTime || !got.Asks[0].Done || got.Asks[0].Error != api.ErrTime || len(got.Asks[0].Series) != 0 || got.Asks[0].Tries != 4 || got.Asks[0].Turn != 0 || got.Asks[0].Since != 4 || got.Asks[1].Done || len(got.Series) != 0 {
		t.Error(got, l)
	}
}

func TestP25_6EndsWithErrTime(t *testing.T) {
	q := begin(t, 0)
	asked := map[int]int{}
	for now := 1; now <= 24; now++ {
		if q.Done {
			t.Fatal(now)
		}
		var l []int
		q, l = Due(q, now)
		asked[now] = len(l)
	}
	if !q.Done || q.Error != api.ErrTime || asked[6] != 2 || asked[12] != 2 || asked[18] != 2 || asked[24] != 0 || asked[5]+asked[7]+asked[23] != 0 {
		t.Error(q, asked)
	}
}

func TestP25_7DoneStays(t *testing.T) {
	q := Tell(begin(t, 0), 0, nil, api.ErrLong)
	d, l := Due(q, 100)
	for _, got := range []api.Query{d, Tell(q, 1, []string{a}, api.OK), Settle(q)} {
		if !reflect.DeepEqual(got, q) || len(l) != 0 {
			t.Error(got)
		}
	}
}

func TestP25_8AnyOrder(t *testing.T) {
	q, _ := Begin(1, []api.Matcher{m(api.MatchEq, "b", "2"), m(api.MatchEq, "a", "1"), m(api.MatchNot, "c", "3")}, 4, 0)
	told := [][]string{{ab, a}, {ab, b}, nil}
	for _, order := range [][]int{{0, 1, 2}, {0, 2, 1}, {1, 0, 2}, {1, 2, 0}, {2, 0, 1}, {2, 1, 0}} {
		got := q
		for k, i := range order {
			if got.Done {
				t.Error(order, k)
			}
			got = Tell(got, i, told[i], api.OK)
		}
		if !got.Done || got.Error != api.OK || !slices.Equal(got.Series, []string{ab}) {
			t.Error(order, got)
		}
	}
	// Both fail at one tick: the first error in the order of asks is told.
	q.Asks[0].Tries, q.Asks[1].Done, q.Asks[1].Error = 4, true, api.ErrLong
	if got, _ := Due(q, 6); got.Error != api.ErrTime {
		t.Error(got)
	}
	q.Asks[0], q.Asks[1] = q.Asks[1], q.Asks[0]
	if got, _ := Due(q, 6); got.Error != api.ErrLong {
		t.Error(got)
	}
}
