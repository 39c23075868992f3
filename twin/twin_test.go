package twin_test

import (
	"reflect"
	"testing"

	"gleaner/api"
	. "gleaner/twin"
)

func TestMsgIsNew(t *testing.T) {
	make := func() api.Msg {
		e := []api.Entry{{Series: "s", Links: []api.Link{{Group: 1}}}}
		c := func() api.Context { return api.Context{Vector: []api.Dot{{N: 1}}, Cloud: []api.Dot{{N: 3}}} }
		return api.Msg{Kind: 1, Delta: api.Delta{Entries: e, Alive: []api.Dot{{N: 1}}, Context: c()}, Context: c(), Series: []string{"x"}}
	}
	m := make()
	n := Msg(m)
	if !reflect.DeepEqual(m, n) {
		t.Error(n)
	}
	n.Delta.Entries[0].Links[0].Group = 7
	n.Delta.Entries[0].Tick = 7
	n.Delta.Alive[0].N = 7
	n.Delta.Context.Vector[0].N = 7
	n.Delta.Context.Cloud[0].N = 7
	n.Context.Vector[0].N = 7
	n.Context.Cloud[0].N = 7
	n.Series[0] = "y"
	if !reflect.DeepEqual(m, make()) {
		t.Error(m)
	}
}
