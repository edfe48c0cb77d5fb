package core

import "thunkmill/api"

// Arity tells how many arguments a primitive has; -1, if there is none of that name.
func Arity(prim string) int {
	switch prim {
	case "getc", "eof":
		return 0
	case "ord", "chr", "error", "show", "ret", "putc", "exit":
		return 1
	case "add", "sub", "mul", "quot", "rem", "eq", "ne", "lt", "le", "gt", "ge", "ceq", "clt", "seq", "bind":
		return 2
	}
	return -1
}

// Builtin tells the constructors that are in each program, by Type and Tag.
func Builtin() []api.Con {
	return []api.Con{
		{Name: "False", Arity: 0, Type: "Bool", Tag: 0},
		{Name: "True", Arity: 0, Type: "Bool", Tag: 1},
		{Name: "Nil", Arity: 0, Type: "List", Tag: 0},
		{Name: "Cons", Arity: 2, Type: "List", Tag: 1},
		{Name: "Unit", Arity: 0, Type: "Unit", Tag: 0},
	}
}

func isName(s string) bool {
	if len(s) < 1 || len(s) > api.MaxSource {
		return false
	}
	for i := range len(s) {
		if s[i] < 33 || s[i] > 126 {
			return false
		}
	}
	return true
}

// areNames tells whether all are names, none twice.
func areNames(l []string) bool {
	for _, s := range l {
		if !isName(s) {
			return false
		}
	}
	return distinct(l)
}

func distinct[K comparable](l []K) bool {
	there := make(map[K]struct{}, len(l))
	for _, k := range l {
		there[k] = struct{}{}
	}
	return len(there) == len(l)
}

func isChar(n int64) bool {
	return 0 <= n && n <= 255
}

func boundBy(l []api.Bind) []string {
	names := make([]string, len(l))
	for i := range l {
		names[i] = l[i].Name
	}
	return names
}
