package prim

import "thunkmill/api"

// primitive is one that works on simple values alone; how many arguments it has is core's to tell.
type primitive struct {
	takes int                       // the kind of each argument
	value func(a, b int64) api.Prim // of the first and the last argument, which are one if there is one alone
}

// table has no row of the others, since it is made anew by each call that looks into it.
func table() map[string]primitive {
	return map[string]primitive{
		"add": {takes: api.PrimInt, value: func(a, b int64) api.Prim { return number(a + b) }},
		"sub": {takes: api.PrimInt, value: func(a, b int64) api.Prim { return number(a - b) }},
		"mul": {takes: api.PrimInt, value: func(a, b int64) api.Prim { return number(a * b) }},

		"quot": {takes: api.PrimInt, value: quotient},
		"rem":  {takes: api.PrimInt, value: remainder},

		"eq": {takes: api.PrimInt, value: func(a, b int64) api.Prim { return truth(a == b) }},
		"ne": {takes: api.PrimInt, value: func(a, b int64) api.Prim { return truth(a != b) }},
		"lt": {takes: api.PrimInt, value: func(a, b int64) api.Prim { return truth(a < b) }},
		"le": {takes: api.PrimInt, value: func(a, b int64) api.Prim { return truth(a <= b) }},
		"gt": {takes: api.PrimInt, value: func(a, b int64) api.Prim { return truth(a > b) }},
		"ge": {takes: api.PrimInt, value: func(a, b int64) api.Prim { return truth(a >= b) }},

		"ceq": {takes: api.PrimChar, value: func(a, b int64) api.Prim { return truth(a == b) }},
		"clt": {takes: api.PrimChar, value: func(a, b int64) api.Prim { return truth(a < b) }},
		"ord": {takes: api.PrimChar, value: func(a, _ int64) api.Prim { return number(a) }},
		"chr": {takes: api.PrimInt, value: func(a, _ int64) api.Prim { return character(a) }},
	}
}

// others tells of those that work on more than simple values how many arguments are evaluated ahead.
func others() map[string]int {
	return map[string]int{"seq": 1, "error": 0, "show": 1, "ret": 0, "bind": 0, "getc": 0, "putc": 0, "eof": 0, "exit": 0}
}

func quotient(a, b int64) api.Prim {
	if b == 0 {
		return divideByZero()
	}
	return number(a / b)
}

func remainder(a, b int64) api.Prim {
	if b == 0 {
		return divideByZero()
	}
	return number(a % b)
}

func character(code int64) api.Prim {
	if !isCode(code) {
		return failure("chr out of range")
	}
	return api.Prim{Kind: api.PrimChar, Num: code}
}
