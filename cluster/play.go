package cluster

import (
	"slices"

	"gleaner/api"
	"gleaner/node"
)

// asked is a query that a script asked, and that is not answered yet.
type asked struct {
	node, number int
	still        bool
}

// player plays a script, and writes down what came of it.
type player struct {
	c       api.Cluster
	waiting []asked
	facts   []api.Fact
}

// Play does acts one behind the other, and tells what came of them.
func Play(c api.Cluster, l []api.Act) (api.Cluster, []api.Fact) {
	p := player{c: c}
	for _, a := range l {
		p.act(a)
	}
	return p.c, p.facts
}

func (p *player) act(a api.Act) {
	ahead := p.c
	c, number, code := Do(p.c, a)
	p.c = c
	switch a.Kind {
	case api.ActAdd, api.ActRemove, api.ActSweep:
		p.changes(entries(ahead, a.A), entries(c, a.A))
	}
	if a.Kind != api.ActHand && a.Kind != api.ActQuery {
		for i := range p.waiting {
			p.waiting[i].still = false
		}
	}
	if a.Kind == api.ActQuery && code == api.OK {
		p.waiting = append(p.waiting, asked{node: a.A, number: number, still: Quiet(ahead)})
	}
	p.answers()
}

// entries are what node i has at home.
func entries(c api.Cluster, i int) []api.Entry {
	if !isNode(c, i) {
		return nil
	}
	s, _ := node.Shard(c.Nodes[i], 0)
	return s.Set.Entries
}

// changes writes down which entries went, and which came.
func (p *player) changes(before, now []api.Entry) {
	for _, e := range without(before, now) {
		p.facts = append(p.facts, api.Fact{Kind: api.FactGone, Series: e.Series, Dot: e.Dot, Tick: e.Tick})
	}
	for _, e := range without(now, before) {
		p.facts = append(p.facts, api.Fact{Kind: api.FactAdd, Series: e.Series, Dot: e.Dot, Tick: e.Tick})
	}
}

// without are the entries of a whose dots b does not have.
func without(a, b []api.Entry) []api.Entry {
	var out []api.Entry
	for _, e := range a {
		if !slices.ContainsFunc(b, func(x api.Entry) bool { return x.Dot == e.Dot }) {
			out = append(out, e)
		}
	}
	return out
}

// answers writes down the queries that are answered now.
func (p *player) answers() {
	var waiting []asked
	for _, w := range p.waiting {
		q, ok := Answer(p.c, w.node, w.number)
		switch {
		case ok && q.Done:
			p.facts = append(p.facts, api.Fact{Kind: api.FactAnswer, Matchers: slices.Clone(q.Matchers), List: slices.Clone(q.Series), Error: q.Error, Still: w.still})
		case ok:
			waiting = append(waiting, w)
		}
	}
	p.waiting = waiting
}
