package model

import (
	"thunkmill/api"
	"thunkmill/core"
	"thunkmill/prim"
)

// The kinds of values.
const (
	number = iota + 1
	character
	constructor
	function
	action
)

// value is what an expression comes to. It is never changed.
type value struct {
	kind  int
	num   int64   // of a number, a character
	name  string  // of a constructor; of an action its primitive's
	parts []*cell // of a constructor, an action; of a function the arguments that it has already
	of    *lambda // of a function
	env   *frame  // of a function
}

// sign is what an alternative asks of a value.
type sign struct {
	kind int
	num  int64
	name string
}

func (v *value) sign() sign {
	return sign{kind: v.kind, num: v.num, name: v.name}
}

// prim is a number or a character as primitives take it.
func (v *value) prim() api.Prim {
	if v.kind == character {
		return api.Prim{Kind: api.PrimChar, Num: v.num}
	}
	return api.Prim{Kind: api.PrimInt, Num: v.num}
}

// look is how a value looks.
func (v *value) look() string {
	switch v.kind {
	case number:
		return prim.Show(v.num)
	case character:
		return core.Text(api.Expr{Kind: api.ExChar, Num: v.num})
	case constructor:
		return v.name
	case function:
		return "fun"
	}
	return "action"
}

func truth(is bool) *value {
	if is {
		return &value{kind: constructor, name: "True"}
	}
	return &value{kind: constructor, name: "False"}
}

func char(c byte) *value {
	return &value{kind: character, num: int64(c)}
}

// list is a text's characters, wholly evaluated.
func list(text string) *value {
	l := &value{kind: constructor, name: "Nil"}
	for i := len(text) - 1; i >= 0; i-- {
		l = &value{kind: constructor, name: "Cons", parts: []*cell{full(char(text[i])), full(l)}}
	}
	return l
}
