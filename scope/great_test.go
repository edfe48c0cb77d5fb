package scope_test

import (
	"slices"
	"strconv"
	"strings"
	"testing"
	"time"

	"thunkmill/api"
	"thunkmill/scope"
	"thunkmill/testkit"
)

// numbered is one of the names v0, v1, .. .
func numbered(i int) string { return "v" + strconv.Itoa(i) }

// function is an equation of a name, with one pattern and a right side of its own block.
func function(name string) api.Node {
	block := node(api.NdWhere, bind("y", variable("x")))
	return named(api.NdEqn, name, named(api.NdPVar, "x"), node(api.NdRhs, variable("y"), block))
}

// P10.1: great blocks in which many small ones stand; a block that copied all names for each of them would take minutes.
func TestGreatBlocks(t *testing.T) {
	var decls []api.Node
	for i := range 100000 {
		decls = append(decls, function(numbered(i)))
	}
	began := time.Now()
	program := node(api.NdProgram, decls...)
	checkFault(t, "a great program", program, api.Fault{})
	checkFault(t, "a great where", node(api.NdProgram, node(api.NdBind, named(api.NdPVar, "f"), node(api.NdRhs, variable(numbered(99999)), node(api.NdWhere, decls...)))), api.Fault{})
	checkNames(t, "a great let", scope.Free(node(api.NdLet, node(api.NdWhere, decls...), node(api.NdApp, variable("g"), variable(numbered(50000))))), "g")
	decls[99999].Kids[1].Kids[0] = at(77, variable("z"))
	checkFault(t, "a great program's last name", program, api.Fault{Err: api.ErrScope, At: 77})
	if took := time.Since(began); took > time.Minute {
		t.Errorf("it took %v", took)
	}
}

// P10.1: names of few blocks and of many, within one another, are all there, whichever of them is asked for.
func TestNamesOfManyBlocks(t *testing.T) {
	for _, each := range []int{1, 2, 50, 127, 128, 129, 300} {
		deep := 80
		var uses []api.Node
		for i := range each * deep {
			uses = append(uses, variable(numbered(i)))
		}
		e := node(api.NdList, append(uses, variable("free"))...)
		for d := range deep {
			var decls []api.Node
			for i := range each {
				decls = append(decls, bind(numbered(d*each+i), number()))
			}
			e = node(api.NdLet, node(api.NdWhere, decls...), e)
		}
		checkMayBe(t, e)
		checkNames(t, "blocks of "+strconv.Itoa(each), scope.Free(e), "free")
		checkNames(t, "behind the blocks", scope.Free(node(api.NdTuple, e, variable("v0"), variable(numbered(each*deep-1)))), strings.Join(slices.Compact([]string{"free", "v0", numbered(each*deep - 1)}), " "))
		checkNames(t, "behind the inner blocks", scope.Free(node(api.NdLet, e.Kids[0], node(api.NdTuple, e.Kids[1], variable("v0")))), "free v0")
		checkNames(t, "but for the outermost", scope.Free(e.Kids[1]), freeOf(e.Kids[0].Kids))
	}
}

// freeOf are the names of bindings, and one more, in rising order.
func freeOf(decls []api.Node) string {
	e := node(api.NdList, variable("free"))
	for _, d := range decls {
		e.Kids = append(e.Kids, variable(d.Kids[0].Name))
	}
	text := ""
	for _, name := range freeIn(e) {
		text += name + " "
	}
	return text
}

// P10.1: as many statements, and as many equations of one function, as there may be.
func TestGreatLists(t *testing.T) {
	var parts, eqns []api.Node
	for i := range 60000 {
		parts = append(parts, node(api.NdGen, named(api.NdPVar, numbered(i)), variable(numbered(max(i-1, 0)))))
		eqns = append(eqns, named(api.NdEqn, "f", named(api.NdPVar, "x"), node(api.NdRhs, variable("x"))))
	}
	do := node(api.NdDo, append(parts, node(api.NdStmt, variable(numbered(59999))))...)
	checkNames(t, "a great do", scope.Free(do), "v0")
	checkNames(t, "a great comprehension", scope.Free(node(api.NdComp, append([]api.Node{variable(numbered(59999))}, parts...)...)), "v0")
	checkNames(t, "a great function", scope.Defines(eqns), "f")
	checkFault(t, "a great function", node(api.NdProgram, eqns...), api.Fault{})
	last := testkit.Copied(eqns[0])
	last.At, last.Kids = 99, append([]api.Node{{Kind: api.NdPAny}}, last.Kids...)
	checkFault(t, "one more equation", node(api.NdProgram, append(eqns, last)...), api.Fault{Err: api.ErrShape, At: 99})
}
