package cluster_test

import (
	"fmt"
	"math"
	"reflect"
	"slices"
	"testing"

	"gleaner/api"
	. "gleaner/cluster"
	"gleaner/label"
	"gleaner/matcher"
	"gleaner/net"
	"gleaner/node"
	"gleaner/orset"
	"gleaner/place"
	"gleaner/shard"
)

func config(nodes, groups, copies int) api.Config {
	return api.Config{Nodes: nodes, Groups: groups, Copies: copies, Life: 10}
}

func fresh(t *testing.T, c api.Config) api.Cluster {
	x, code := New(c)
	if code != api.OK {
		t.Fatal(code)
	}
	return x
}

func labels(l ...string) []api.Label {
	var out []api.Label
	for i := 0; i+1 < len(l); i += 2 {
		out = append(out, api.Label{Name: l[i], Value: l[i+1]})
	}
	return out
}

func add(a int, l ...string) api.Act { return api.Act{Kind: api.ActAdd, A: a, Labels: labels(l...)} }

func query(a int, l ...api.Matcher) api.Act {
	return api.Act{Kind: api.ActQuery, A: a, Matchers: l}
}

func act(kind, a, b int) api.Act { return api.Act{Kind: kind, A: a, B: b} }

func eq(name, value string) api.Matcher {
	return api.Matcher{Kind: api.MatchEq, Name: name, Value: value}
}

var round = api.Act{Kind: api.ActRound}

// do does acts, none of which may be refused.
func do(t *testing.T, c api.Cluster, l ...api.Act) api.Cluster {
	for _, a := range l {
		next, _, code := Do(c, a)
		if code != api.OK {
			t.Fatal(a, code)
		}
		c = next
	}
	return c
}

// entries are what node i has at home.
func entries(c api.Cluster, i int) []api.Entry {
	s, _ := node.Shard(c.Nodes[i], 0)
	return s.Set.Entries
}

func TestP27_1New(t *testing.T) {
	c := config(3, 4, 2)
	x := fresh(t, c)
	if x.Config != c || len(x.Nodes) != 3 || len(x.Flight) != 0 || x.Now != 0 {
		t.Error(x)
	}
	for i := range 3 {
		if n, _ := node.New(c, i); !reflect.DeepEqual(n, x.Nodes[i]) {
			t.Error(i)
		}
	}
	if x, code := New(api.Config{}); code != api.ErrArg || !reflect.DeepEqual(x, api.Cluster{}) {
		t.Error(code)
	}
}

func TestP27_2Do(t *testing.T) {
	c := do(t, fresh(t, config(3, 2, 1)), add(0, "a", "1"), add(0, "a", "2"))
	if len(c.Flight) != 2 || c.Flight[0].To != 1 {
		t.Fatal(c.Flight)
	}
	lost := do(t, c, act(api.ActLose, 0, 0))
	if len(lost.Flight) != 1 || lost.Flight[0].Number != 2 {
		t.Error(lost.Flight)
	}
	twice := do(t, c, act(api.ActTwice, 0, 1))
	if len(twice.Flight) != 3 || !reflect.DeepEqual(twice.Flight[2], twice.Flight[1]) {
		t.Error(twice.Flight)
	}
	heard := do(t, c, act(api.ActHand, 0, 1))
	if len(heard.Flight) != 2 || heard.Flight[1].Kind != api.MsgAck || len(heard.Nodes[0].Sends) != 2 {
		t.Error(heard.Flight)
	}
	acked := do(t, heard, act(api.ActHand, 0, 1))
	if len(acked.Nodes[0].Sends) != 1 || len(c.Nodes[0].Sends) != 2 {
		t.Error(acked.Nodes[0].Sends)
	}
	ticked := do(t, c, act(api.ActTick, 99, 0))
	if ticked.Now != 1 || ticked.Nodes[2].Now != 1 {
		t.Error(ticked.Now)
	}
	ticked.Now = api.MaxInt
	if x := do(t, ticked, act(api.ActTick, 0, 0)); x.Now != api.MaxInt || x.Nodes[0].Now != 2 {
		t.Error(x.Now)
	}
	gossip := do(t, lost, act(api.ActGossip, 0, 0))
	if len(gossip.Flight) != 3 || gossip.Nodes[0].Sends[1].Turn != 1 {
		t.Error(gossip.Flight)
	}
	for range 11 {
		c = do(t, c, act(api.ActTick, 0, 0))
	}
	if swept := do(t, c, act(api.ActSweep, 0, 0)); len(entries(swept, 0)) != 0 {
		t.Error("swept")
	}
	asked, number, code := Do(c, query(2, eq("a", "1")))
	if code != api.OK || number != 1 || len(asked.Flight) != 3 {
		t.Error(number, code)
	}
	gone := do(t, c, api.Act{Kind: api.ActRemove, Labels: labels("a", "1")})
	if len(entries(gone, 0)) != 1 {
		t.Error("removed")
	}
	stray := c
	stray.Flight = []api.Msg{{To: 7}, {To: -1}}
	if x := do(t, stray, act(api.ActHand, 0, 1), act(api.ActHand, 0, 0)); len(x.Flight) != 0 {
		t.Error(x.Flight)
	}
}

func TestP27_2Refused(t *testing.T) {
	c := do(t, fresh(t, config(3, 2, 1)), add(0, "a", "1"))
	for _, x := range []struct {
		a    api.Act
		code api.Errno
	}{
		{api.Act{}, api.ErrArg}, {act(11, 0, 0), api.ErrArg}, {act(-1, 0, 0), api.ErrArg}, {add(3, "A", "1"), api.ErrArg}, {add(-1, "a", "1"), api.ErrArg}, {act(api.ActGossip, 3, 0), api.ErrArg}, {act(api.ActSweep, math.MaxInt, 0), api.ErrArg}, {query(3), api.ErrArg}, {act(api.ActRemove, 9, 0), api.ErrArg},
		{add(0, "A", "1"), api.ErrLabel}, {add(1, "a", "1"), api.ErrState}, {act(api.ActHand, 9, 1), api.ErrNone}, {act(api.ActLose, 9, -1), api.ErrNone}, {act(api.ActTwice, 9, 1), api.ErrNone}, {query(0, api.Matcher{}), api.ErrArg}, {query(0, make([]api.Matcher, 6)...), api.ErrLong},
	} {
		if got, number, code := Do(c, x.a); code != x.code || number != 0 || !reflect.DeepEqual(got, c) {
			t.Error(x.a, code)
		}
	}
	full := c
	full.Flight = make([]api.Msg, 600)
	if x := do(t, full, add(0, "a", "2")); len(x.Flight) != 600 || len(x.Nodes[0].Sends) != 2 {
		t.Error(len(x.Flight))
	}
	if _, _, code := Do(full, act(api.ActTwice, 0, 0)); code != api.ErrFull {
		t.Error(code)
	}
}

func TestP27_3Round(t *testing.T) {
	c := do(t, fresh(t, config(2, 2, 2)), add(0, "a", "1"), add(1, "a", "2"))
	one := Round(c)
	if len(one.Flight) != 0 || !reflect.DeepEqual(one, do(t, c, round)) || len(c.Flight) != 0 {
		t.Error(one.Flight)
	}
	// All gossip ahead of the first message: by one round both know both.
	if !Quiet(one) || len(entries(one, 0)) != 2 || len(entries(one, 1)) != 2 {
		t.Error(entries(one, 0), entries(one, 1))
	}
	// What node 2 hears of node 0 in a round it tells node 1 in the next one.
	ring := do(t, fresh(t, config(3, 1, 3)), add(0, "a", "1"), round)
	if len(entries(ring, 2)) != 1 || len(entries(ring, 1)) != 0 {
		t.Error(entries(ring, 1), entries(ring, 2))
	}
}

func TestP27_4QuietAndEqual(t *testing.T) {
	c := fresh(t, config(2, 2, 2))
	if !Quiet(c) || !Equal(c) || !Equal(api.Cluster{}) || !Equal(api.Cluster{Config: api.Config{Groups: math.MaxInt}}) {
		t.Error("new")
	}
	short := do(t, c, add(0, "a", "1"))
	short.Nodes = short.Nodes[:1]
	if Equal(short) {
		t.Error("a node that is not there knows nothing")
	}
	one := do(t, c, add(0, "a", "1"))
	if Quiet(one) || Equal(one) || !Quiet(Round(one)) {
		t.Error("an add")
	}
	for kind := 1; kind <= 5; kind++ {
		busy := c
		busy.Flight = []api.Msg{{Kind: kind}}
		if Quiet(busy) != (kind != api.MsgDelta && kind != api.MsgDigest) || !Equal(busy) {
			t.Error(kind)
		}
	}
	sends := do(t, fresh(t, config(2, 2, 1)), add(0, "a", "1"))
	sends.Flight = nil
	if Quiet(sends) || !Equal(sends) {
		t.Error("a send")
	}
}

func TestP27_5Answer(t *testing.T) {
	c, number, _ := Do(fresh(t, config(3, 1, 1)), query(0))
	for i, want := range map[int]bool{0: true, 1: false, 3: false, -1: false} {
		if q, ok := Answer(c, i, number); ok != want || !ok && !reflect.DeepEqual(q, api.Query{}) {
			t.Error(i, q)
		}
	}
	if _, ok := Answer(c, 0, 2); ok {
		t.Error("there is no query 2")
	}
}

func TestP27_6Facts(t *testing.T) {
	a := []api.Matcher{eq("a", "1")}
	d := func(n int) api.Dot { return api.Dot{Node: 0, N: n} }
	tick := act(api.ActTick, 0, 0)
	l := []api.Act{tick, add(0, "a", "1"), query(0, a...), add(0, "a", "1"), add(0, "A", "1"), add(7, "a", "1"), {Kind: api.ActRemove, Labels: labels("a", "1")}, add(0, "b", "1"), {Kind: api.ActRemove, Labels: labels("c", "1")}, query(0, api.Matcher{}), query(0)}
	for range 10 {
		l = append(l, tick)
	}
	l = append(l, act(api.ActSweep, 0, 0), tick, act(api.ActSweep, 0, 0))
	c, facts := Play(fresh(t, config(1, 2, 1)), l)
	want := []api.Fact{
		{Kind: api.FactAdd, Series: `{a="1"}`, Dot: d(1), Tick: 1}, {Kind: api.FactAnswer, Matchers: a, List: []string{`{a="1"}`}, Still: true},
		{Kind: api.FactGone, Series: `{a="1"}`, Dot: d(1), Tick: 1}, {Kind: api.FactAdd, Series: `{a="1"}`, Dot: d(2), Tick: 1}, {Kind: api.FactGone, Series: `{a="1"}`, Dot: d(2), Tick: 1}, {Kind: api.FactAdd, Series: `{b="1"}`, Dot: d(4), Tick: 1},
		{Kind: api.FactAnswer, List: []string{`{b="1"}`}, Still: true}, {Kind: api.FactGone, Series: `{b="1"}`, Dot: d(4), Tick: 1},
	}
	if !reflect.DeepEqual(facts, want) || c.Now != 12 {
		t.Error(facts)
	}
}

func TestP27_6Still(t *testing.T) {
	hand, tick := act(api.ActHand, 0, 0), act(api.ActTick, 0, 0)
	for i, x := range []struct {
		l    []api.Act
		want []bool
	}{
		{[]api.Act{query(1), hand, hand}, []bool{true}}, {[]api.Act{query(1), round}, []bool{false}}, {[]api.Act{query(1), tick, hand, hand}, []bool{false}}, {[]api.Act{query(1), act(api.ActLose, 0, 5), hand, hand}, []bool{false}},
		{[]api.Act{query(1), query(0), query(1), hand, hand, hand, hand}, []bool{true, true, true}}, {[]api.Act{add(0, "a", "1"), query(1), hand, hand, hand, hand}, []bool{false}}, {[]api.Act{query(1), act(api.ActTwice, 0, 0), hand, hand, hand, hand}, []bool{false}}, {[]api.Act{query(1), hand}, nil},
	} {
		_, facts := Play(fresh(t, config(2, 2, 1)), x.l)
		var got []bool
		for _, f := range facts {
			if f.Kind == api.FactAnswer {
				got = append(got, f.Still)
			}
		}
		if !slices.Equal(got, x.want) {
			t.Error(i, got)
		}
	}
	if c, facts := Play(fresh(t, config(2, 2, 1)), nil); len(facts) != 0 || len(c.Nodes) != 2 {
		t.Error(facts)
	}
}

// script is acts by a rule.
func script(c api.Config, seed, steps int) []api.Act {
	next := func(n int) int {
		seed = (seed*1103 + 12345) % 65521
		return seed % n
	}
	var l []api.Act
	for range steps {
		a := api.Act{Kind: next(10) + 1, A: next(c.Nodes), B: next(4)}
		switch {
		case a.Kind <= api.ActRemove:
			a.Labels = labels([]string{"a", "b", "c", "d"}[next(4)], fmt.Sprint(next(3)), "e", fmt.Sprint(next(2)))
		case a.Kind == api.ActQuery:
			a.Matchers = []api.Matcher{eq("a", fmt.Sprint(next(3))), {Kind: api.MatchNot, Name: "e", Value: "1"}}[next(2):]
		case a.Kind == api.ActRound && next(3) > 0:
			a.Kind = api.ActGossip
		}
		l = append(l, a)
	}
	return l
}

// series are the series of node i's shard of a group.
func series(c api.Cluster, i, group int) []string {
	s, _ := node.Shard(c.Nodes[i], group)
	return shard.Series(s)
}

func TestP27_7And8Quiet(t *testing.T) {
	for seed, conf := range []api.Config{config(3, 4, 2), config(5, 3, 5), config(4, 8, 1), config(2, 2, 2), config(1, 3, 1), config(6, 8, 3)} {
		c, _ := Play(fresh(t, conf), script(conf, seed+3, 150))
		for range 2 * conf.Nodes {
			c = Round(c)
		}
		if !Quiet(c) || !Quiet(Round(c)) || !Quiet(do(t, c, query(0), act(api.ActTick, 0, 0), round)) {
			t.Fatal(conf, "is not quiet")
		}
		for g := range conf.Groups {
			var want []string
			for _, s := range series(c, 0, 0) {
				if l, _ := label.Parse(s); slices.Contains(place.Groups(l, conf.Groups), g) {
					want = append(want, s)
				}
			}
			first, _ := node.Shard(c.Nodes[place.Replicas(conf, g)[0]], g)
			for _, i := range place.Replicas(conf, g) {
				if s, _ := node.Shard(c.Nodes[i], g); !orset.Same(s.Set, first.Set) || !slices.Equal(shard.Series(s), want) {
					t.Error(conf, g, i)
				}
			}
		}
		if Quiet(do(t, c, add(0, "a", "9"))) && conf.Nodes > 1 {
			t.Error(conf, "a write is told")
		}
	}
}

func TestP27_9AnswersOfAQuietCluster(t *testing.T) {
	for seed, conf := range []api.Config{config(3, 4, 2), config(4, 8, 1), config(2, 2, 2)} {
		c, _ := Play(fresh(t, conf), script(conf, seed+7, 120))
		for range 2 * conf.Nodes {
			c = Round(c)
		}
		for i := range conf.Nodes {
			m := []api.Matcher{{Kind: api.MatchRx, Name: "a", Value: "1|2"}, {Kind: api.MatchNot, Name: "e", Value: "0"}}
			var want []string
			for _, s := range series(c, 0, 0) {
				if l, _ := label.Parse(s); matcher.Match(m, l) {
					want = append(want, s)
				}
			}
			_, facts := Play(c, []api.Act{query(i, m...), round})
			if len(facts) != 1 || !slices.Equal(facts[0].List, want) || facts[0].Error != api.OK {
				t.Error(conf, i, facts, want)
			}
		}
	}
	if net.Busy(nil) {
		t.Error("busy")
	}
}
