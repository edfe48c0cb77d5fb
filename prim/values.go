package prim

import "thunkmill/api"

func number(n int64) api.Prim { return api.Prim{Kind: api.PrimInt, Num: n} }

func truth(is bool) api.Prim {
	v := api.Prim{Kind: api.PrimBool}
	if is {
		v.Num = 1
	}
	return v
}

func failure(text string) api.Prim { return api.Prim{Kind: api.PrimError, Text: text} }

func divideByZero() api.Prim { return failure("divide by zero") }

func isCode(n int64) bool { return 0 <= n && n <= 255 }

// mayBe tells whether a number or a character is one.
func mayBe(v api.Prim) bool {
	return v.Text == "" && (v.Kind != api.PrimChar || isCode(v.Num))
}
