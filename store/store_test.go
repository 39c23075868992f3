package store_test

import (
	"fmt"
	"math"
	"reflect"
	"slices"
	"strings"
	"testing"

	"gleaner/api"
	"gleaner/codec"
	"gleaner/dot"
	"gleaner/node"
	"gleaner/shard"
	. "gleaner/store"
	"gleaner/varint"
)

func config(nodes, groups, copies int) api.Config {
	return api.Config{Nodes: nodes, Groups: groups, Copies: copies, Life: 10}
}

// filled is a node that took some writes, ticks and queries.
func filled(t *testing.T, c api.Config) api.Node {
	n, code := node.New(c, 0)
	if code != api.OK {
		t.Fatal(code)
	}
	for i := range 30 {
		l := []api.Label{{Name: []string{"a", "b", "c", "d"}[i%4], Value: fmt.Sprint(i % 5)}}
		n, _, code = node.Write(c, n, l, i%7 == 6)
		if code != api.OK {
			t.Fatal(code)
		}
		if i%6 == 0 {
			n, _ = node.Tick(c, n)
			n, _ = node.Gossip(c, n)
			n, _, _, _ = node.Ask(c, n, nil)
		}
	}
	return n
}

func nodes(t *testing.T) map[api.Config]api.Node {
	out := map[api.Config]api.Node{}
	for _, c := range []api.Config{config(3, 4, 2), config(1, 1, 1), config(5, 8, 1), config(2, 3, 2)} {
		out[c] = filled(t, c)
	}
	return out
}

const nought = "\x00\x00\x00\x00\x00\x00\x00\x00\x00\x00\x00\x00\x00\x00\x00\x00"

// empty is a change of nothing of a group.
func empty(group byte) string {
	return "\x10\x01\x00\x00" + string([]byte{group}) + nought[4:]
}

func TestP35_1Write(t *testing.T) {
	n, _ := node.New(config(1, 1, 1), 0)
	if s, code := Write(n); s != "\x00\x01\x00\x01\x01\x00\x00"+empty(0) || code != api.OK {
		t.Errorf("%q %d", s, code)
	}
	n, _ = node.New(config(3, 2, 1), 2)
	n.Next, n.Now, n.Made = 300, 5, []int{6, 7}
	n.Sends = []api.Send{{Group: 1, Number: 8, Turn: 9}}
	if s, code := Write(n); s != "\x02\xac\x02\x05\x02\x00\x01\x06\x07"+empty(1)+"\x08\x09" || code != api.OK {
		t.Errorf("%q %d", s, code)
	}
	for i, change := range []func(n *api.Node){
		func(n *api.Node) { n.Id = -1 }, func(n *api.Node) { n.Next = api.MaxInt + 1 }, func(n *api.Node) { n.Now = math.MinInt }, func(n *api.Node) { n.Made[1] = -1 }, func(n *api.Node) { n.Made = make([]int, 9) }, func(n *api.Node) { n.Shards = make([]api.Shard, 9) }, func(n *api.Node) { n.Sends = make([]api.Send, 4001) },
		func(n *api.Node) { n.Sends[0].Number = -1 }, func(n *api.Node) { n.Sends[0].Turn = -1 }, func(n *api.Node) { n.Sends[0].Group = -1 }, func(n *api.Node) { n.Sends[0].Delta.Alive = []api.Dot{{N: -1}} }, func(n *api.Node) { n.Shards[0].Group = -1 }, func(n *api.Node) { n.Shards[0].Index.All = []int{7} }, func(n *api.Node) { n.Sends[0].Delta.Alive = make([]api.Dot, 4001) },
	} {
		n := filled(t, config(3, 4, 2))
		n.Made, n.Sends, n.Shards = slices.Clone(n.Made), slices.Clone(n.Sends), slices.Clone(n.Shards)
		if _, code := Write(n); code != api.OK {
			t.Fatal(code)
		}
		change(&n)
		if s, code := Write(n); s != "" || code != api.ErrArg {
			t.Error(i, code)
		}
	}
}

func TestP35_1And2JustSoMany(t *testing.T) {
	c := config(1, 8, 1)
	n, _ := node.New(c, 0)
	for i := range 4000 {
		n.Sends = append(n.Sends, api.Send{Group: 1, Number: i})
	}
	s, code := Write(n)
	if back, d := Read(c, s); code != api.OK || d != api.OK || !Same(n, back) {
		t.Error(code, d)
	}
}

func TestP35_2Read(t *testing.T) {
	c := config(3, 2, 1)
	message := func(m api.Msg) string {
		s, _ := codec.Write(m)
		size, _ := varint.Put(len(s))
		return size + s
	}
	ahead := "\x00\x05\x06\x02\x01\x00\x07\x08"
	n, code := Read(c, ahead+empty(0))
	if code != api.OK || n.Id != 0 || n.Next != 5 || n.Now != 6 || !slices.Equal(n.Made, []int{7, 8}) || len(n.Shards) != 1 || n.Shards[0].Groups != 2 {
		t.Error(n, code)
	}
	wrong := api.Msg{Kind: api.MsgDelta, Delta: api.Delta{Alive: []api.Dot{{N: 1}}}}
	for i, x := range []struct {
		c    api.Config
		s    string
		code api.Errno
	}{
		{c, "", api.ErrShort}, {c, "\x80\x00", api.ErrForm}, {c, "\x81\x80\x80\x80\x80\x20", api.ErrLong}, {c, "\x00\x00\x00\x09", api.ErrLong}, {c, "\x00\x00\x00\x02\x09\x80\x00", api.ErrLong}, {c, "\x00\x00\x00\x02\x01\xa1\x1f", api.ErrLong}, {c, "\x09\x00\x00\x02\x01\x00\x80\x00", api.ErrForm}, {c, "\x09\x00\x00\x02\x01\x00\x07", api.ErrShort},
		{c, "\x09\x00\x00\x08\x01\x00\x07\x08\x07\x08\x07\x08\x07\x08", api.ErrArg}, {api.Config{}, ahead + empty(0), api.ErrArg}, {c, "\x00\x00\x00\x01\x01\x00\x07", api.ErrForm}, {c, "\x00\x00\x00\x03\x01\x00\x07\x07\x07", api.ErrForm}, {c, "\x00\x00\x00\x02\x00\x00\x07\x07", api.ErrForm}, {c, "\x00\x00\x00\x02\x02\x00\x07\x07", api.ErrForm},
		{c, ahead, api.ErrShort}, {c, ahead + "\x80\x00", api.ErrForm}, {c, ahead + "\x11" + empty(0)[1:], api.ErrShort}, {c, ahead + "\x0f" + empty(0)[1:16], api.ErrShort}, {c, ahead + "\x11" + empty(0)[1:] + "\x00", api.ErrForm}, {c, ahead + "\x02\x80\x00", api.ErrForm}, {c, ahead + empty(1), api.ErrForm}, {c, ahead + message(api.Msg{}), api.ErrForm}, {c, ahead + message(api.Msg{Kind: api.MsgAck}), api.ErrForm}, {c, ahead + message(wrong), api.ErrForm},
		{c, ahead + empty(0) + "\x00", api.ErrForm}, {c, ahead + empty(0) + empty(0), api.ErrForm}, {c, "\x00\x05\x06\x02\x01\x01\x07\x08" + empty(0) + empty(7) + "\x01\x02", api.OK}, {c, "\x00\x05\x06\x02\x01\x01\x07\x08" + empty(0) + empty(7) + "\x01", api.ErrShort}, {c, "\x00\x05\x06\x02\x01\x01\x07\x08" + empty(0) + message(api.Msg{Kind: 2}) + "\x01\x02", api.ErrForm},
		{c, "\x00\x05\x06\x02\x01\x01\x07\x08" + empty(0) + message(wrong) + "\x01\x02", api.ErrForm}, {c, ahead + "\xff\xff\xff\xff\xff\x1f", api.ErrShort},
	} {
		n, code := Read(x.c, x.s)
		if code != x.code || code != api.OK && !reflect.DeepEqual(n, api.Node{}) {
			t.Error(i, code, x.code)
		}
	}
}

func TestP35_3Same(t *testing.T) {
	c := config(3, 4, 2)
	a := filled(t, c)
	if len(a.Sends) == 0 {
		t.Fatal("no sends")
	}
	other := filled(t, c)
	other.Queries = nil
	if !Same(a, other) || !Same(api.Node{}, api.Node{Made: []int{}}) {
		t.Error("not the same")
	}
	for i, change := range []func(n *api.Node){
		func(n *api.Node) { n.Id++ }, func(n *api.Node) { n.Next++ }, func(n *api.Node) { n.Now++ }, func(n *api.Node) { n.Made[3]++ }, func(n *api.Node) { n.Made = n.Made[:3] }, func(n *api.Node) { n.Shards[0].Group = 7 }, func(n *api.Node) { n.Shards[0].Set.Entries = n.Shards[0].Set.Entries[1:] }, func(n *api.Node) { n.Shards[1].Set.Context = api.Context{} },
		func(n *api.Node) { n.Shards = n.Shards[1:] }, func(n *api.Node) { n.Sends = n.Sends[1:] }, func(n *api.Node) { n.Sends[0], n.Sends[1] = n.Sends[1], n.Sends[0] }, func(n *api.Node) { n.Sends[0].Turn++ }, func(n *api.Node) { n.Sends[0].Number++ }, func(n *api.Node) { n.Sends[0].Group++ }, func(n *api.Node) { n.Sends[0].Delta.Alive = nil },
	} {
		b := filled(t, c)
		change(&b)
		if Same(a, b) || Same(b, a) {
			t.Error(i)
		}
	}
}

func TestP35_4ReadAsItWas(t *testing.T) {
	for c, n := range nodes(t) {
		s, code := Write(n)
		back, d := Read(c, s)
		again, e := Write(back)
		if code+d+e != api.OK || !Same(n, back) || s != again || len(back.Queries) != 0 {
			t.Error(c, code, d, e)
		}
		for i, x := range back.Shards {
			if !shard.Whole(x) || !slices.Equal(shard.Series(x), shard.Series(n.Shards[i])) {
				t.Error(c, x.Group)
			}
		}
	}
}

func TestP35_5GoesOn(t *testing.T) {
	for c, n := range nodes(t) {
		n.Queries = nil
		s, _ := Write(n)
		back, code := Read(c, s)
		if code != api.OK {
			t.Fatal(c, code)
		}
		for i := range 40 {
			var a, b []api.Msg
			switch i % 5 {
			case 0:
				l := []api.Label{{Name: "a", Value: fmt.Sprint(i % 7)}, {Name: "zz", Value: "1"}}
				n, a, _ = node.Write(c, n, l, i%3 == 0)
				back, b, _ = node.Write(c, back, l, i%3 == 0)
			case 1:
				n, a = node.Tick(c, n)
				back, b = node.Tick(c, back)
			case 2:
				n, a = node.Gossip(c, n)
				back, b = node.Gossip(c, back)
			case 3:
				m := []api.Matcher{{Kind: api.MatchRx, Name: "a", Value: "[0-3]"}}
				n, a, _, _ = node.Ask(c, n, m)
				back, b, _, _ = node.Ask(c, back, m)
			default:
				m := api.Msg{Kind: []int{api.MsgAck, api.MsgDigest, api.MsgAsk}[i/5%3], From: 1, Number: i, Context: dot.From([]api.Dot{{N: i}})}
				n, a = node.Hear(c, n, m)
				back, b = node.Hear(c, back, m)
			}
			if !reflect.DeepEqual(a, b) || !Same(n, back) || !reflect.DeepEqual(n.Queries, back.Queries) {
				t.Fatal(c, i, a, b)
			}
		}
	}
}

func TestP35_6CutOff(t *testing.T) {
	for c, n := range nodes(t) {
		s, _ := Write(n)
		for i := 0; i < len(s); i += 1 + len(s)/500 {
			if x, code := Read(c, s[:i]); code == api.OK || !reflect.DeepEqual(x, api.Node{}) {
				t.Error(c, i, code)
			}
		}
		if _, code := Read(c, s+"\x00"); code != api.ErrForm {
			t.Error(c, code)
		}
		if _, code := Read(c, s[:len(s)-1]+strings.Repeat("\x80", 7)); code == api.OK {
			t.Error(c)
		}
	}
}
