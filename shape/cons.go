package shape

import "thunkmill/api"

// withDeclared puts the constructors of a program's declarations behind others. What stands in inner blocks is not asked: it is no declaration of the program.
func withDeclared(l []api.Con, declarations []api.Node) ([]api.Con, api.Fault) {
	newType, newName := newcomers(), newcomers()
	for _, c := range l {
		newType(c.Type)
		newName(c.Name)
	}
	for _, d := range declarations {
		if d.Kind != api.NdData {
			continue
		}
		if !newType(d.Name) {
			return nil, api.Fault{Err: api.ErrScope, At: d.At}
		}
		for tag, c := range d.Kids {
			if !newName(c.Name) {
				return nil, api.Fault{Err: api.ErrScope, At: c.At}
			}
			l = append(l, api.Con{Name: c.Name, Arity: int(c.Num), Type: d.Name, Tag: tag})
		}
	}
	return l, api.Fault{}
}

// newcomers answers a function that tells of a name whether it is asked of for the first time.
func newcomers() func(name string) bool {
	known := map[string]struct{}{}
	return func(name string) bool {
		_, there := known[name]
		known[name] = struct{}{}
		return !there
	}
}
