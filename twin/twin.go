// Package twin lays things anew, so that what is answered shares no memory with what was handed in.
package twin

import (
	"slices"

	"gleaner/api"
)

// Context lays a context anew.
func Context(c api.Context) api.Context {
	return api.Context{Vector: slices.Clone(c.Vector), Cloud: slices.Clone(c.Cloud)}
}

// Entry lays an entry anew.
func Entry(e api.Entry) api.Entry {
	e.Links = slices.Clone(e.Links)
	return e
}

// Entries lays entries anew.
func Entries(l []api.Entry) []api.Entry {
	var out []api.Entry
	for _, e := range l {
		out = append(out, Entry(e))
	}
	return out
}

// Delta lays a change anew.
func Delta(d api.Delta) api.Delta {
	return api.Delta{Entries: Entries(d.Entries), Alive: slices.Clone(d.Alive), Context: Context(d.Context)}
}

// Msg lays a message anew.
func Msg(m api.Msg) api.Msg {
	m.Delta = Delta(m.Delta)
	m.Context = Context(m.Context)
	m.Series = slices.Clone(m.Series)
	return m
}
