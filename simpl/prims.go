package simpl

import (
	"thunkmill/api"
	"thunkmill/prim"
)

// fold is the value of a primitive that it takes to tell it; false, if there is none.
func fold(e *api.Expr) (api.Prim, bool) {
	if e.Kind != api.ExPrim {
		return api.Prim{}, false
	}
	args := make([]api.Prim, len(e.Args))
	for i := range e.Args {
		switch a := &e.Args[i]; a.Kind {
		case api.ExInt:
			args[i] = api.Prim{Kind: api.PrimInt, Num: a.Num}
		case api.ExChar:
			args[i] = api.Prim{Kind: api.PrimChar, Num: a.Num}
		default:
			return api.Prim{}, false
		}
	}
	v, err := prim.Apply(e.Name, args)
	return v, err == api.OK && v.Kind != api.PrimError
}

func (t *tree) isFolded(e *api.Expr) bool {
	_, there := fold(e)
	return there
}

func (t *tree) folded(e *api.Expr) api.Expr {
	v, _ := fold(e)
	switch {
	case v.Kind == api.PrimInt:
		return api.Expr{Kind: api.ExInt, Num: v.Num}
	case v.Kind == api.PrimChar:
		return api.Expr{Kind: api.ExChar, Num: v.Num}
	case v.Num == 0:
		return api.Expr{Kind: api.ExCon, Name: "False"}
	}
	return api.Expr{Kind: api.ExCon, Name: "True"}
}

// isSeqOfValue tells whether what is evaluated first is a value already.
func (t *tree) isSeqOfValue(e *api.Expr) bool {
	if e.Kind != api.ExPrim || e.Name != "seq" {
		return false
	}
	switch e.Args[0].Kind {
	case api.ExInt, api.ExChar, api.ExCon, api.ExLam:
		return true
	}
	return false
}

func (t *tree) second(e *api.Expr) api.Expr {
	t.drop(&e.Args[0])
	return e.Args[1]
}
