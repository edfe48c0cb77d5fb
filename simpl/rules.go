package simpl

import "thunkmill/api"

// rule is what is asked of an expression, and what becomes of it.
type rule struct {
	applies func(t *tree, e *api.Expr) bool
	becomes func(t *tree, e *api.Expr) api.Expr
}

// rules are all of them, by number from 1 on.
func rules() []rule {
	return []rule{
		{(*tree).hasDead, (*tree).withoutDead},
		{(*tree).hasAtom, (*tree).withoutAtom},
		{(*tree).hasOnce, (*tree).withoutOnce},
		{(*tree).isCall, (*tree).called},
		{(*tree).isChosen, (*tree).chosen},
		{(*tree).isCaseOfCase, (*tree).caseWithin},
		{(*tree).isLetApplied, (*tree).appliedWithin},
		{(*tree).isCaseOfLet, (*tree).caseWithinLet},
		{(*tree).isFolded, (*tree).folded},
		{(*tree).isSeqOfValue, (*tree).second},
		{(*tree).isAppliedTwice, (*tree).appliedAtOnce},
		{(*tree).hasDeadElse, (*tree).withoutName},
	}
}

func (t *tree) applies(rule int, e *api.Expr) bool {
	return t.rules[rule].applies(t, e)
}

// pass rewrites at most so often, and tells how often.
func (t *tree) pass(most int) int {
	done := 0
	for done < most && len(t.way) > 0 {
		i, rule := t.first()
		if i < 0 {
			t.way.on()
			t.clean = len(t.way) - 1
			continue
		}
		if !t.rewrite(i, rule) {
			break
		}
		done++
	}
	return done
}

// first is the first stop of the way to which a rule applies, and the first such rule; -1, if there is none. What the way has left behind need not be asked again: whether a rule applies hangs on what stands in an expression alone, and so a rewriting does nothing to those but the ones around it.
func (t *tree) first() (stop, rule int) {
	for i := t.clean; i < len(t.way); i++ {
		for rule := range t.rules {
			if t.applies(rule, t.way[i].e) {
				return i, rule
			}
		}
	}
	return -1, 0
}

// rewrite puts what becomes of it in the place of the expression at a stop, from where the way will go on; or tells that it would be too great or too deep. The tree is not to be rewritten after that.
func (t *tree) rewrite(stop, rule int) bool {
	e := t.way[stop].e
	r := room{left: maxSize - t.size + size(e)}
	by := t.rules[rule].becomes(t, e)
	if !r.take(&by, maxDeep-stop) {
		return false
	}
	t.size = maxSize - r.left
	*e = by
	t.way = t.way[:stop+1]
	t.way[stop].next, t.clean = 0, 0
	return true
}
