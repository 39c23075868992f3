package node

import (
	"slices"

	"gleaner/api"
	"gleaner/coord"
	"gleaner/delta"
	"gleaner/dot"
	"gleaner/orset"
	"gleaner/shard"
	"gleaner/twin"
)

// worker changes a node step by step, and gathers what it sends.
type worker struct {
	c   api.Config
	n   api.Node
	out []api.Msg
}

// begin lays those lists of a node anew that are changed in place.
func begin(c api.Config, n api.Node) *worker {
	n.Shards = slices.Clone(n.Shards)
	n.Made = slices.Clone(n.Made)
	n.Sends = slices.Clone(n.Sends)
	n.Queries = slices.Clone(n.Queries)
	return &worker{c: c, n: n}
}

// apply applies a change to the node's shard of a group; false, if it has none.
func (w *worker) apply(group int, d api.Delta) bool {
	at := find(w.n, group)
	if at < 0 {
		return false
	}
	w.n.Shards[at] = shard.Apply(w.n.Shards[at], d)
	return true
}

// next is the dot of the next change of the node's own.
func (w *worker) next() api.Dot {
	if len(w.n.Made) == 0 {
		return api.Dot{}
	}
	return api.Dot{Node: w.n.Id, N: w.n.Made[home] + 1}
}

// made keeps which change was the last one in a group.
func (w *worker) made(group int, d api.Dot) {
	if group >= 0 && group < len(w.n.Made) {
		w.n.Made[group] = d.N
	}
}

// add adds a series at home, and brings it to its groups.
func (w *worker) add(here api.Shard, series string, groups []int) api.Errno {
	d := w.next()
	e := api.Entry{Series: series, Dot: d, Tick: w.n.Now}
	others := groups[1:]
	for _, g := range others {
		e.Links = append(e.Links, api.Link{Group: g, Dot: d})
	}
	_, change, code := orset.Add(here.Set, e)
	if code != api.OK {
		return code
	}
	w.made(home, d)
	w.apply(home, change)
	w.bringAll(others, d)
	return api.OK
}

// remove takes a series away from home and from its groups.
func (w *worker) remove(here api.Shard, series string) {
	d := w.next()
	set, change := orset.Remove(here.Set, series, d)
	w.drop(here.Set, set, change, d)
}

// expire takes what was last refreshed ahead of a tick away from home and from its groups.
func (w *worker) expire(here api.Shard, before int) {
	d := w.next()
	set, change := orset.Expire(here.Set, before, d)
	w.drop(here.Set, set, change, d)
}

// drop applies the change d by which home came from one set to another one, if there is one.
func (w *worker) drop(before, now api.Set, change api.Delta, d api.Dot) {
	if !dot.Has(change.Context, d) {
		return
	}
	w.made(home, d)
	w.apply(home, change)
	w.bringAll(linked(before, now), d)
}

// linked are the other groups to which entries had links that went, rising.
func linked(before, now api.Set) []int {
	var out []int
	for _, e := range before.Entries {
		stays := slices.ContainsFunc(now.Entries, func(x api.Entry) bool { return x.Dot == e.Dot })
		for _, k := range e.Links {
			if !stays && k.Group != home {
				out = append(out, k.Group)
			}
		}
	}
	slices.Sort(out)
	return slices.Compact(out)
}

// bringAll brings to groups what home has for each of them.
func (w *worker) bringAll(groups []int, d api.Dot) {
	for _, g := range groups {
		if g < len(w.n.Made) {
			w.made(g, d)
			w.bring(g, w.has(g))
		}
	}
}

// has is what home has for a group.
func (w *worker) has(group int) api.Delta {
	here, _ := Shard(w.n, home)
	d := api.Delta{Context: shard.Context(here)}
	for _, e := range here.Set.Entries {
		for _, k := range e.Links {
			if k.Group == group {
				d.Entries = append(d.Entries, api.Entry{Series: e.Series, Dot: k.Dot, Tick: e.Tick})
				d.Alive = append(d.Alive, k.Dot)
			}
		}
	}
	return d
}

// bring brings a change to a group: it is applied here, or told until it is known there.
func (w *worker) bring(group int, d api.Delta) {
	if w.apply(group, d) {
		return
	}
	s := api.Send{Group: group, Number: w.n.Next, Delta: d}
	w.n.Next++
	w.n.Sends = append(w.n.Sends, s)
	w.tell(s)
}

// tell tells a change to the replica whose turn it is.
func (w *worker) tell(s api.Send) {
	to, ok := coord.Node(w.c, api.Ask{Group: s.Group, Turn: s.Turn})
	if ok {
		w.out = append(w.out, api.Msg{Kind: api.MsgDelta, From: w.n.Id, To: to, Group: s.Group, Number: s.Number, Delta: twin.Delta(s.Delta)})
	}
}

// reply sends a message back to where another one came from.
func (w *worker) reply(to, m api.Msg) {
	m.From, m.To, m.Group = w.n.Id, to.From, to.Group
	w.out = append(w.out, m)
}

func (w *worker) hearDelta(m api.Msg) {
	s, ok := Shard(w.n, m.Group)
	if !ok || !delta.Fits(m.Delta, s.Set.Context) {
		return
	}
	w.apply(m.Group, m.Delta)
	if m.Number > 0 {
		w.reply(m, api.Msg{Kind: api.MsgAck, Number: m.Number})
	}
}

func (w *worker) hearDigest(m api.Msg) {
	s, ok := Shard(w.n, m.Group)
	if ok && dot.Right(m.Context) && !dot.Under(s.Set.Context, m.Context) {
		w.reply(m, api.Msg{Kind: api.MsgDelta, Delta: delta.Since(s.Set, m.Context)})
	}
}

func (w *worker) hearTell(m api.Msg) {
	for i, q := range w.n.Queries {
		if q.Number == m.Number/places {
			w.n.Queries[i] = coord.Tell(q, m.Number%places, m.Series, m.Error)
		}
	}
}

// ask asks the ask number i of a query: the node itself at once, another one by a message.
func (w *worker) ask(q api.Query, i int) api.Query {
	a := q.Asks[i]
	to, ok := coord.Node(w.c, a)
	switch {
	case !ok:
		return q
	case to == w.n.Id:
		series, code := answer(w.n, a.Group, a.Matcher)
		return coord.Tell(q, i, series, code)
	}
	w.out = append(w.out, api.Msg{Kind: api.MsgAsk, From: w.n.Id, To: to, Group: a.Group, Number: places*q.Number + i, Matcher: a.Matcher})
	return q
}
