package occur

import "thunkmill/api"

const (
	dead   = api.OccDead
	once   = api.OccOnce
	branch = api.OccBranch
	lam    = api.OccLam
	many   = api.OccMany
)

// together has what a name's occurrence comes to with one more place, whose own is once or lam, if the places are not in different alternatives of one case.
var together = [...][lam + 1]int{
	dead:   {once: once, lam: lam},
	once:   {once: many, lam: many},
	branch: {once: many, lam: many},
	lam:    {once: many, lam: many},
	many:   {once: many, lam: many},
}

// apart has what it comes to if they are.
var apart = [...][lam + 1]int{
	dead:   {once: once, lam: lam},
	once:   {once: branch, lam: many},
	branch: {once: branch, lam: many},
	lam:    {once: many, lam: many},
	many:   {once: many, lam: many},
}
