package model

import (
	"errors"

	"thunkmill/api"
)

// ending is how a run ends. It is passed by panic, from however deep within.
type ending struct {
	kind  int
	code  int
	text  string
	wrong int
}

func (e ending) Error() string {
	return "the run has ended"
}

func failed(text string) ending {
	return ending{kind: api.EndError, text: text}
}

func wrong(what int) ending {
	return ending{kind: api.EndWrong, wrong: what}
}

// outcome does what ends by a panic, and tells how the run ended.
func (r *run) outcome(do func()) (o api.Outcome) {
	defer func() {
		x := recover()
		var end ending
		if err, ok := x.(error); ok && errors.As(err, &end) {
			o = r.told(end)
			return
		}
		panic(x) // no run's ending, but a fault of this package, which no outcome should hide
	}()
	do()
	return api.Outcome{}
}

func (r *run) told(end ending) api.Outcome {
	return api.Outcome{
		Kind:  end.kind,
		Code:  end.code,
		Text:  end.text,
		Wrong: end.wrong,
		Out:   r.world.Out(),
		Used:  r.world.Used(),
		Steps: r.steps,
	}
}
