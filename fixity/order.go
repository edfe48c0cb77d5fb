package fixity

import (
	"slices"

	"thunkmill/api"
)

// resolver brings operators in order. Its nodes are new memory all through.
type resolver struct {
	holding func(name string) api.Fixity
}

// item is a part of a row of operands and operators: an operand that is in order itself, an operator, or the - of a negation, whose operand stands behind it.
type item struct {
	node  api.Node
	minus bool
}

func (r resolver) node(n api.Node) (api.Node, *api.Fault) {
	if n.Kind == api.NdOps || n.Kind == api.NdPOps {
		row, fault := r.row(n.Kids)
		if fault != nil {
			return api.Node{}, fault
		}
		return r.order(n.Kind, row)
	}
	kids := slices.Grow([]api.Node(nil), len(n.Kids))
	for _, k := range n.Kids {
		k, fault := r.node(k)
		if fault != nil {
			return api.Node{}, fault
		}
		kids = append(kids, k)
	}
	n.Kids = kids
	return n, nil
}

// row has the parts of a list of operands and operators. Negations are opened as they stand in the list: what parentheses are around, or what came from operators within, holds its operand already.
func (r resolver) row(kids []api.Node) ([]item, *api.Fault) {
	row := make([]item, 0, len(kids))
	for _, k := range kids {
		for k.Kind == api.NdNeg {
			row = append(row, item{node: api.Node{Kind: api.NdNeg, At: k.At}, minus: true})
			k = k.Kids[0]
		}
		k, fault := r.node(k)
		if fault != nil {
			return nil, fault
		}
		row = append(row, item{node: k})
	}
	return row, nil
}

// order makes one node of a row by the report's function (10.6), two functions that call one another over one place in the row. Operators that lean to the right wait in a list, so that calls are nested no deeper than there are levels, however long the row is.
func (r resolver) order(kind int, row []item) (api.Node, *api.Fault) {
	place := 0
	var readOn func(behind api.Fixity) (api.Node, *api.Fault)
	operand := func(behind api.Fixity) (api.Node, *api.Fault) {
		it := row[place]
		place++
		if !it.minus {
			return it.node, nil
		}
		if behind.Level >= negation().Level {
			return api.Node{}, cannotBe(it.node)
		}
		held, fault := readOn(negation())
		if fault != nil {
			return api.Node{}, fault
		}
		it.node.Kids = []api.Node{held}
		return it.node, nil
	}
	readOn = func(behind api.Fixity) (api.Node, *api.Fault) {
		var waiting []pending
		left, fault := operand(behind)
		for fault == nil && place < len(row) {
			op := row[place].node
			next := r.holding(op.Name)
			if !mayStand(kind, op.Name) || clash(behind, next) {
				return api.Node{}, cannotBe(op)
			}
			if keeps(behind, next) {
				break
			}
			place++
			if behind.Level == next.Level {
				waiting = append(waiting, pending{left, op})
				left, fault = operand(next)
				continue
			}
			var right api.Node
			right, fault = readOn(next)
			left = applied(kind, op, left, right)
		}
		if fault != nil {
			return api.Node{}, fault
		}
		for _, w := range slices.Backward(waiting) {
			left = applied(kind, w.op, w.left, left)
		}
		return left, nil
	}
	return readOn(api.Fixity{Side: api.SideNone, Level: -1})
}

// pending is an operator that waits for its right operand.
type pending struct {
	left, op api.Node
}

// negation is how the - of a negation holds, whatever a table tells of the operator -.
func negation() api.Fixity { return api.Fixity{Side: api.SideLeft, Level: 6} }

// clash tells whether nothing says which of two operators holds what is between them.
func clash(behind, next api.Fixity) bool {
	return behind.Level == next.Level && (behind.Side != next.Side || behind.Side == api.SideNone)
}

// keeps tells whether the operator behind which an operand stands holds it, and not the next one; they don't clash.
func keeps(behind, next api.Fixity) bool {
	return behind.Level > next.Level || behind.Level == next.Level && behind.Side == api.SideLeft
}

// mayStand tells whether an operator may be among operands of a kind: patterns are made by constructors alone.
func mayStand(kind int, name string) bool {
	return kind == api.NdOps || isConstructor(name)
}

// isConstructor goes by the first byte alone: that the name is an operator's is known.
func isConstructor(name string) bool {
	return name[0] == ':' || 'A' <= name[0] && name[0] <= 'Z'
}

func cannotBe(n api.Node) *api.Fault {
	return &api.Fault{Err: api.ErrFixity, At: n.At}
}

// applied is an operator with both its operands.
func applied(kind int, op, left, right api.Node) api.Node {
	if kind == api.NdPOps {
		return api.Node{Kind: api.NdPCon, Name: op.Name, Kids: []api.Node{left, right}, At: left.At}
	}
	op.Kind = api.NdVar
	if isConstructor(op.Name) {
		op.Kind = api.NdCon
	}
	return api.Node{Kind: api.NdApp, Kids: []api.Node{op, left, right}, At: left.At}
}
