package node_test

import (
	"fmt"
	"math"
	"reflect"
	"slices"
	"testing"

	"gleaner/api"
	"gleaner/dot"
	"gleaner/label"
	"gleaner/matcher"
	. "gleaner/node"
	"gleaner/orset"
	"gleaner/place"
	"gleaner/shard"
)

func config(nodes, groups, copies int) api.Config {
	return api.Config{Nodes: nodes, Groups: groups, Copies: copies, Life: 10}
}

func labels(l ...string) []api.Label {
	var out []api.Label
	for i := 0; i+1 < len(l); i += 2 {
		out = append(out, api.Label{Name: l[i], Value: l[i+1]})
	}
	return out
}

func d(node, n int) api.Dot { return api.Dot{Node: node, N: n} }

func eq(name, value string) api.Matcher {
	return api.Matcher{Kind: api.MatchEq, Name: name, Value: value}
}

func fresh(t *testing.T, c api.Config, id int) api.Node {
	n, code := New(c, id)
	if code != api.OK {
		t.Fatal(code)
	}
	return n
}

// write writes, and goes on.
func write(t *testing.T, c api.Config, n api.Node, gone bool, l ...string) (api.Node, []api.Msg) {
	n, out, code := Write(c, n, labels(l...), gone)
	if code != api.OK {
		t.Fatal(l, code)
	}
	return n, out
}

func series(n api.Node, group int) []string {
	s, _ := Shard(n, group)
	return shard.Series(s)
}

func TestP26_1New(t *testing.T) {
	c := config(3, 4, 2)
	if n := fresh(t, c, 2); !reflect.DeepEqual(n, api.Node{Id: 2, Shards: []api.Shard{shard.New(1, 4), shard.New(2, 4)}, Made: make([]int, 4), Next: 1}) {
		t.Error(n)
	}
	for _, x := range []struct {
		c  api.Config
		id int
	}{{c, -1}, {c, 3}, {api.Config{}, 0}, {c, math.MaxInt}} {
		if n, code := New(x.c, x.id); code != api.ErrArg || !reflect.DeepEqual(n, api.Node{}) {
			t.Error(x, code)
		}
	}
}

func TestP26_2Shard(t *testing.T) {
	n := fresh(t, config(3, 4, 2), 2)
	for g, want := range map[int]bool{0: false, 1: true, 2: true, 3: false, -1: false, 9: false} {
		if s, ok := Shard(n, g); ok != want || ok && s.Group != g || !ok && !reflect.DeepEqual(s, api.Shard{}) {
			t.Error(g, s, ok)
		}
	}
}

func TestP26_3Add(t *testing.T) {
	c := config(3, 2, 1)
	n := fresh(t, c, 0)
	n.Now = 5
	n, out := write(t, c, n, false, "a", "1", "b", "")
	e := api.Entry{Series: `{a="1"}`, Dot: d(0, 1), Tick: 5, Links: []api.Link{{Group: 1, Dot: d(0, 1)}}}
	home, _ := Shard(n, 0)
	if !orset.Same(home.Set, api.Set{Entries: []api.Entry{e}, Context: dot.From([]api.Dot{d(0, 1)})}) || !slices.Equal(n.Made, []int{1, 1}) || n.Next != 2 {
		t.Error(n)
	}
	e.Links = nil
	change := api.Delta{Entries: []api.Entry{e}, Alive: []api.Dot{d(0, 1)}, Context: dot.From([]api.Dot{d(0, 1)})}
	if !reflect.DeepEqual(out, []api.Msg{{Kind: api.MsgDelta, From: 0, To: 1, Group: 1, Number: 1, Delta: change}}) || !reflect.DeepEqual(n.Sends, []api.Send{{Group: 1, Number: 1, Delta: change}}) {
		t.Error(out, n.Sends)
	}
	out[0].Delta.Entries[0].Tick, out[0].Delta.Context.Vector[0].N = 77, 77
	if n.Sends[0].Delta.Entries[0].Tick != 5 || n.Sends[0].Delta.Context.Vector[0].N != 1 {
		t.Error("memory is shared")
	}
	// What home has is brought whole: a refresh has the new dot alone, another series of the group stands with it.
	n, _ = write(t, c, n, false, "b", "1")
	n, _ = write(t, c, n, false, "c", "1")
	n, out = write(t, c, n, false, "a", "1")
	want := []api.Dot{d(0, 3), d(0, 4)}
	if len(out) != 1 || !slices.Equal(out[0].Delta.Alive, want) || len(out[0].Delta.Entries) != 2 || !dot.Same(out[0].Delta.Context, dot.From([]api.Dot{d(0, 1), d(0, 2), d(0, 3), d(0, 4)})) || !slices.Equal(n.Made, []int{4, 4}) {
		t.Error(out)
	}
}

func TestP26_3Gone(t *testing.T) {
	c := config(3, 3, 1)
	n := fresh(t, c, 0)
	n, _ = write(t, c, n, false, "a", "1", "b", "1")
	n, _ = write(t, c, n, false, "d", "1")
	n, out := write(t, c, n, true, "a", "2")
	if len(out) != 0 || n.Made[0] != 2 || len(n.Sends) != 3 {
		t.Error("nothing was to be removed")
	}
	n, out = write(t, c, n, true, "b", "1", "a", "1")
	if !slices.Equal(series(n, 0), []string{`{d="1"}`}) || !slices.Equal(n.Made, []int{3, 3, 3}) || len(out) != 2 || out[0].Group != 1 || out[1].Group != 2 {
		t.Error(n.Made, out)
	}
	for _, m := range out {
		if !dot.Has(m.Delta.Context, d(0, 3)) || slices.Contains(m.Delta.Alive, d(0, 1)) {
			t.Error(m)
		}
	}
}

func TestP26_3And11Refused(t *testing.T) {
	c := config(3, 2, 1)
	n, _ := write(t, c, fresh(t, c, 0), false, "a", "1")
	full := fresh(t, c, 0)
	for i := range 120 {
		full, _ = write(t, c, full, false, "b", fmt.Sprint(i))
	}
	for _, x := range []struct {
		n    api.Node
		l    []api.Label
		gone bool
		code api.Errno
	}{
		{n, labels("A", "1"), false, api.ErrLabel}, {n, nil, true, api.ErrLabel}, {fresh(t, c, 1), labels("A", "1"), false, api.ErrLabel}, {fresh(t, c, 1), labels("a", "1"), false, api.ErrState}, {fresh(t, c, 1), labels("a", "1"), true, api.ErrState},
		{full, labels("b", "120"), false, api.ErrFull}, {full, labels("a", "1", "b", "1", "c", "1", "d", "1", "e", "1", "f", "1", "g", "1"), false, api.ErrLong},
	} {
		if got, out, code := Write(c, x.n, x.l, x.gone); code != x.code || len(out) != 0 || !reflect.DeepEqual(got, x.n) {
			t.Error(x.l, code)
		}
	}
	if again, _ := write(t, c, full, false, "b", "7"); again.Made[0] != 121 {
		t.Error("a refresh is no new series")
	}
	if _, out := write(t, c, full, true, "c", "7"); len(out) != 0 {
		t.Error(out)
	}
}

func TestP26_4Sweep(t *testing.T) {
	c := config(3, 2, 1)
	n, _ := write(t, c, fresh(t, c, 0), false, "a", "1")
	n.Now = 3
	n, _ = write(t, c, n, false, "a", "2")
	for now, want := range map[int]int{10: 2, 11: 1, 13: 1, 14: 0} {
		n.Now = now
		got, out := Sweep(c, n)
		if len(series(got, 0)) != want || len(out) != min(1, 2-want) || want == 2 && !reflect.DeepEqual(got, n) {
			t.Error(now, series(got, 0), out)
		}
		if want < 2 && (!slices.Equal(got.Made, []int{3, 3}) || len(out[0].Delta.Alive) != want || !dot.Has(out[0].Delta.Context, d(0, 3))) {
			t.Error(now, got.Made, out)
		}
	}
	// The groups of all that goes are told by rising groups, whichever series went first.
	wide := config(3, 3, 1)
	two, _ := write(t, wide, fresh(t, wide, 0), false, "b", "1")
	two, _ = write(t, wide, two, false, "a", "1")
	two, _ = write(t, wide, two, false, "a", "2")
	two.Now = 11
	if _, out := Sweep(wide, two); len(out) != 2 || out[0].Group != 1 || out[1].Group != 2 {
		t.Error(out)
	}
	far := fresh(t, c, 1)
	far.Now = 99
	if got, out := Sweep(c, far); len(out) != 0 || !reflect.DeepEqual(got, far) {
		t.Error(out)
	}
}

func TestP26_5Hear(t *testing.T) {
	c := config(3, 2, 1)
	n0, out := write(t, c, fresh(t, c, 0), false, "a", "1")
	n1, back := Hear(c, fresh(t, c, 1), out[0])
	if !slices.Equal(series(n1, 1), []string{`{a="1"}`}) || !reflect.DeepEqual(back, []api.Msg{{Kind: api.MsgAck, From: 1, To: 0, Group: 1, Number: 1}}) {
		t.Error(n1, back)
	}
	if n, more := Hear(c, n0, back[0]); len(n.Sends) != 0 || len(more) != 0 {
		t.Error(n, more)
	}
	other := back[0]
	other.Number = 9
	if n, _ := Hear(c, n0, other); len(n.Sends) != 1 {
		t.Error(n)
	}
	silent, gap := out[0], out[0]
	silent.Number = 0
	if n, more := Hear(c, fresh(t, c, 1), silent); len(more) != 0 || len(series(n, 1)) != 1 {
		t.Error(more)
	}
	gap.Delta.Entries = nil
	for _, m := range []api.Msg{gap, {Kind: api.MsgDelta, To: 1, Group: 0, Number: 3}, {Kind: api.MsgDigest, To: 1, Group: 0}, {Kind: api.MsgDigest, To: 1, Group: 1}, {Kind: 9, To: 1}, {To: 1}, {Kind: api.MsgTell, To: 1, Number: math.MinInt}, {Kind: api.MsgDelta, To: 2, Group: 1, Number: 1, Delta: out[0].Delta}, {Kind: api.MsgDigest, To: 1, Group: 1, Context: api.Context{Cloud: dots1()}}} {
		if n, more := Hear(c, fresh(t, c, 1), m); len(more) != 0 || !reflect.DeepEqual(n, fresh(t, c, 1)) {
			t.Error(m, more)
		}
	}
}

// dots1 are dots that make no right context.
func dots1() []api.Dot { return []api.Dot{d(0, 1)} }

func TestP26_5HearDigestAndAsk(t *testing.T) {
	c := config(2, 2, 2)
	n, _ := write(t, c, fresh(t, c, 0), false, "a", "1")
	n, _ = write(t, c, n, false, "a", "2")
	for _, x := range []struct {
		known []api.Dot
		want  int
	}{{nil, 2}, {[]api.Dot{d(0, 1)}, 1}, {[]api.Dot{d(0, 2), d(7, 1)}, 1}} {
		_, out := Hear(c, n, api.Msg{Kind: api.MsgDigest, From: 1, Group: 1, Number: 5, Context: dot.From(x.known)})
		if len(out) != 1 || out[0].Kind != api.MsgDelta || out[0].To != 1 || out[0].From != 0 || out[0].Group != 1 || out[0].Number != 0 || len(out[0].Delta.Entries) != x.want || len(out[0].Delta.Alive) != 2 {
			t.Error(x, out)
		}
	}
	if _, out := Hear(c, n, api.Msg{Kind: api.MsgDigest, From: 1, Group: 1, Context: dot.From([]api.Dot{d(0, 1), d(0, 2), d(1, 1)})}); len(out) != 0 {
		t.Error(out)
	}
	for _, x := range []struct {
		group int
		m     api.Matcher
		want  []string
		code  api.Errno
	}{{1, eq("a", "2"), []string{`{a="2"}`}, api.OK}, {0, api.Matcher{}, []string{`{a="1"}`, `{a="2"}`}, api.OK}, {1, api.Matcher{Name: "a"}, nil, api.ErrArg}, {7, eq("a", "2"), nil, api.ErrState}} {
		got, out := Hear(c, n, api.Msg{Kind: api.MsgAsk, From: 1, Group: x.group, Number: 77, Matcher: x.m})
		if !reflect.DeepEqual(out, []api.Msg{{Kind: api.MsgTell, From: 0, To: 1, Group: x.group, Number: 77, Series: x.want, Error: x.code}}) || !reflect.DeepEqual(got, n) {
			t.Error(x, out)
		}
	}
}

func TestP26_5HearTell(t *testing.T) {
	c := config(3, 2, 1)
	n, out, number, code := Ask(c, fresh(t, c, 2), []api.Matcher{eq("a", "1"), {Kind: api.MatchNot, Name: "b", Value: "1"}})
	if code != api.OK || number != 1 || len(out) != 2 || out[1].Number != 9 {
		t.Fatal(out, number, code)
	}
	n, _ = Hear(c, n, api.Msg{Kind: api.MsgTell, To: 2, Number: 9})
	if q, _ := Answer(n, 1); q.Done || q.Asks[0].Done || !q.Asks[1].Done {
		t.Error(q)
	}
	for _, number := range []int{7, 16, 10, 0, -8, math.MaxInt} {
		if got, _ := Hear(c, n, api.Msg{Kind: api.MsgTell, To: 2, Number: number}); !reflect.DeepEqual(got, n) {
			t.Error(number)
		}
	}
	n, _ = Hear(c, n, api.Msg{Kind: api.MsgTell, To: 2, Number: 8, Series: []string{`{a="1"}`}})
	if q, _ := Answer(n, 1); !q.Done || !slices.Equal(q.Series, []string{`{a="1"}`}) {
		t.Error(q)
	}
}

func TestP26_6Gossip(t *testing.T) {
	c := config(3, 4, 2)
	n, _ := write(t, c, fresh(t, c, 0), false, "a", "1")
	n, out := Gossip(c, n)
	home, _ := Shard(n, 0)
	want := []api.Msg{{Kind: api.MsgDigest, To: 1, Group: 0, Context: home.Set.Context}, {Kind: api.MsgDigest, To: 2, Group: 2}, {Kind: api.MsgDigest, To: 1, Group: 3}, {Kind: api.MsgDelta, To: 2, Group: 1, Number: 1, Delta: n.Sends[0].Delta}}
	if !reflect.DeepEqual(out, want) || n.Sends[0].Turn != 1 {
		t.Error(out, n.Sends)
	}
	n, out = Gossip(c, n)
	if out[3].To != 1 || n.Sends[0].Turn != 2 {
		t.Error(out)
	}
	alone := config(3, 4, 1)
	if _, out := Gossip(alone, fresh(t, alone, 0)); len(out) != 0 {
		t.Error(out)
	}
}

func TestP26_7Tick(t *testing.T) {
	c := config(2, 2, 2)
	lone := config(2, 2, 1)
	n, out, _, _ := Ask(lone, fresh(t, lone, 0), []api.Matcher{eq("a", "1")})
	first := []api.Msg{{Kind: api.MsgAsk, To: 1, Group: 1, Number: 8, Matcher: eq("a", "1")}}
	if !reflect.DeepEqual(out, first) {
		t.Error(out)
	}
	for now := 1; now <= 24; now++ {
		n, out = Tick(lone, n)
		if again := now == 6 || now == 12 || now == 18; n.Now != now || again != reflect.DeepEqual(out, first) || !again && len(out) != 0 {
			t.Error(now, out)
		}
	}
	if q, _ := Answer(n, 1); !q.Done || q.Error != api.ErrTime {
		t.Error(q)
	}
	// The second time it is the node's own turn, and it answers at once.
	n = fresh(t, c, 0)
	n, out, _, _ = Ask(c, n, []api.Matcher{eq("a", "1")})
	if len(out) != 1 || out[0].To != 1 {
		t.Error(out)
	}
	for range 6 {
		n, out = Tick(c, n)
	}
	if q, _ := Answer(n, 1); !q.Done || q.Error != api.OK || len(out) != 0 {
		t.Error(q, out)
	}
	n.Now = api.MaxInt
	if n, _ := Tick(c, n); n.Now != api.MaxInt {
		t.Error(n.Now)
	}
}

func TestP26_8And9AskAndAnswer(t *testing.T) {
	c := config(3, 2, 1)
	n := fresh(t, c, 2)
	for _, x := range []struct {
		l    []api.Matcher
		code api.Errno
	}{{make([]api.Matcher, 6), api.ErrLong}, {make([]api.Matcher, 1), api.ErrArg}, {[]api.Matcher{{Kind: api.MatchRx, Name: "a", Value: "(a|b)*a(a|b){7}"}}, api.ErrComplex}} {
		if got, out, number, code := Ask(c, n, x.l); code != x.code || number != 0 || len(out) != 0 || !reflect.DeepEqual(got, n) {
			t.Error(x, code)
		}
	}
	n, out, number, code := Ask(c, n, nil)
	if code != api.OK || number != 1 || n.Next != 2 || !reflect.DeepEqual(out, []api.Msg{{Kind: api.MsgAsk, From: 2, To: 0, Number: 8}}) {
		t.Error(out, number, code)
	}
	for i := 2; i <= 26; i++ {
		n, _, number, _ = Ask(c, n, []api.Matcher{eq("a", fmt.Sprint(i))})
		if number != i || len(n.Queries) != min(i, 24) {
			t.Error(i, number, len(n.Queries))
		}
	}
	for number, want := range map[int]bool{1: false, 2: false, 3: true, 26: true, 27: false, 0: false, -1: false} {
		if q, ok := Answer(n, number); ok != want || ok && q.Number != number || !ok && !reflect.DeepEqual(q, api.Query{}) {
			t.Error(number, q, ok)
		}
	}
}

// play lets nodes write by a rule; each message is lost, or heard once, or twice, later.
func play(t *testing.T, c api.Config, steps int) []api.Node {
	var l []api.Node
	for id := range c.Nodes {
		l = append(l, fresh(t, c, id))
	}
	seed := 5
	next := func(n int) int {
		seed = (seed*1103 + 12345) % 65521
		return seed % n
	}
	var flight []api.Msg
	for range steps {
		i := next(c.Nodes)
		var out []api.Msg
		switch next(8) {
		case 0, 1, 2:
			name := []string{"a", "b", "c", "d"}[next(4)]
			l[i], out, _ = Write(c, l[i], labels(name, fmt.Sprint(next(3)), "e", fmt.Sprint(next(2))), next(3) == 0)
		case 3:
			l[i], out = Gossip(c, l[i])
		case 4:
			l[i], out = Sweep(c, l[i])
		case 5:
			for k := range l {
				l[k], _ = Tick(c, l[k])
			}
		default:
			if len(flight) > 0 {
				k := next(len(flight))
				m := flight[k]
				if next(3) > 0 {
					flight = slices.Delete(flight, k, k+1)
				}
				if next(4) > 0 {
					l[m.To], out = Hear(c, l[m.To], m)
				}
			}
		}
		flight = append(flight, out...)
		for _, n := range l {
			for _, s := range n.Shards {
				if !shard.Whole(s) {
					t.Fatal("P26.10", n.Id, s.Group)
				}
			}
		}
	}
	return l
}

// round lets all gossip, and all be heard.
func round(c api.Config, l []api.Node) {
	for i := range l {
		var flight, out []api.Msg
		l[i], flight = Gossip(c, l[i])
		for len(flight) > 0 {
			m := flight[0]
			l[m.To], out = Hear(c, l[m.To], m)
			flight = append(flight[1:], out...)
		}
	}
}

func TestP26_10And12HoldTheSame(t *testing.T) {
	for _, c := range []api.Config{config(3, 4, 2), config(4, 3, 3), config(2, 2, 1), config(5, 8, 1)} {
		l := play(t, c, 150)
		for range 2 * c.Nodes {
			round(c, l)
		}
		home := series(l[0], 0)
		for g := range c.Groups {
			var want []string
			for _, s := range home {
				x, _ := label.Parse(s)
				if slices.Contains(place.Groups(x, c.Groups), g) {
					want = append(want, s)
				}
			}
			first, _ := Shard(l[place.Replicas(c, g)[0]], g)
			for _, id := range place.Replicas(c, g) {
				if s, _ := Shard(l[id], g); !orset.Same(s.Set, first.Set) || !slices.Equal(shard.Series(s), want) {
					t.Error(c, g, id, shard.Series(s), want)
				}
			}
		}
		for _, n := range l {
			if len(n.Sends) != 0 {
				t.Error(n.Id, n.Sends)
			}
		}
	}
}

func TestP26_13AnswersAtOnce(t *testing.T) {
	c := config(1, 3, 1)
	n := play(t, c, 60)[0]
	for _, l := range [][]api.Matcher{nil, {eq("a", "1")}, {{Kind: api.MatchNot, Name: "e", Value: "0"}}, {{Kind: api.MatchRx, Name: "b", Value: "1|2"}, {Kind: api.MatchNrx, Name: "a", Value: ".+"}}} {
		var want []string
		for _, s := range series(n, 0) {
			if x, _ := label.Parse(s); matcher.Match(l, x) {
				want = append(want, s)
			}
		}
		got, out, number, code := Ask(c, n, l)
		if q, _ := Answer(got, number); code != api.OK || len(out) != 0 || !q.Done || q.Error != api.OK || !slices.Equal(q.Series, want) {
			t.Error(l, q, want)
		}
	}
	if len(series(n, 0)) == 0 {
		t.Error("no series")
	}
}
