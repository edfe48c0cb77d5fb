package model_test

import (
	"math/rand"

	"thunkmill/testkit"
)

// maker makes programs by chance, and picks what else a test takes.
type maker struct {
	*rand.Rand
	testkit.Maker
}

func seeded(seed int64) *maker {
	r := rand.New(rand.NewSource(seed))
	return &maker{r, testkit.Maker{Chance: r}}
}

func (m *maker) pick(l ...string) string { return l[m.Intn(len(l))] }

func (m *maker) anySort() testkit.Sort { return testkit.Sort(m.Intn(int(testkit.Sorts))) }
