package shape

import (
	"slices"

	"thunkmill/api"
)

// find tells the constructor of a name, and whether there is one.
type find func(name string) (api.Con, bool)

// finder answers a function that finds the constructors of a list: its map is made once, since a tree may ask for more than the list has.
func finder(l []api.Con) find {
	first := make(map[string]api.Con, len(l))
	for _, c := range slices.Backward(l) {
		first[c.Name] = c
	}
	return func(name string) (api.Con, bool) {
		if name == ":" {
			name = "Cons"
		}
		c, there := first[name]
		return c, there
	}
}

// firstFault goes from the left, a node ahead of its kids.
func (f find) firstFault(n *api.Node) api.Fault {
	if e := f.wrong(n); e != api.OK {
		return api.Fault{Err: e, At: n.At}
	}
	for i := range n.Kids {
		if fault := f.firstFault(&n.Kids[i]); fault.Err != api.OK {
			return fault
		}
	}
	return api.Fault{}
}

// wrong tells what is wrong with a node, its kids aside.
func (f find) wrong(n *api.Node) api.Errno {
	if n.Kind != api.NdCon && n.Kind != api.NdPCon {
		return api.OK
	}
	c, there := f(n.Name)
	if !there {
		return api.ErrScope
	}
	if n.Kind == api.NdPCon && len(n.Kids) != c.Arity {
		return api.ErrShape
	}
	return api.OK
}
