package world

import (
	"limekiln/api"
	"limekiln/revive"
	"limekiln/thread"
)

// Do does an act.
func (w *World) Do(a api.Act) api.Errno {
	if w.isNone() {
		return api.ErrArg
	}
	switch a.Kind {
	case api.ActInvoke:
		return w.invoke(a.Thread, a.Op)
	case api.ActStep:
		return w.step(a.Thread)
	case api.ActEvict:
		return w.memory.Device().Evict(a.Line)
	case api.ActCrash:
		w.crash()
		return api.OK
	case api.ActRevive:
		return w.revive()
	}
	return api.ErrArg
}

// invoke lets a thread begin an operation, which is a call from then on.
func (w *World) invoke(t int, o api.Op) api.Errno {
	x, e := w.ask(t)
	if e != api.OK {
		return e
	}
	if e := x.Invoke(o); e != api.OK {
		return e
	}
	w.under[t] = len(w.calls)
	w.calls = append(w.calls, api.Call{Thread: t, Op: o, Begin: w.memory.Clock(), End: api.None, When: api.None})
	return api.OK
}

// step lets a thread go on by a step, and takes its answer, if it has answered then.
func (w *World) step(t int) api.Errno {
	x, e := w.ask(t)
	if e != api.OK {
		return e
	}
	if _, is := x.Op(); !is {
		return api.ErrNone
	}
	x.Step(w.memory)
	if x.Answered() {
		w.answer(t)
	}
	return api.OK
}

// answer takes a thread's answer. When it was so must be asked ahead of that: a thread that is idle knows no more.
func (w *World) answer(t int) {
	x := w.threads[t]
	when := x.When()
	r, _ := x.Take()
	if c := w.call(t); c != nil {
		c.Result, c.End, c.When = r, w.memory.Clock(), when
		w.under[t] = api.None
	}
}

// crash lets go all that does not last. Whether what a call had done is kept is told by what was written back till then.
func (w *World) crash() {
	w.each(func(t int, x *thread.Thread) {
		if c := w.call(t); c != nil {
			w.breakOff(c, x)
			w.under[t] = api.None
		}
		*x = *thread.New(w.where, t) // whoever has asked for the thread has it still
	})
	w.memory.Crash()
	w.recovery = nil
	w.is = down
}

// breakOff notes that a crash has broken off a thread's call.
func (w *World) breakOff(c *api.Call, x *thread.Thread) {
	c.Crashed = true
	if at := x.Where(); at != api.None {
		c.When = x.When()
		c.Kept = w.memory.Writes(at) > x.Writes()
	}
}

// revive lets the recovery go on by a step.
func (w *World) revive() api.Errno {
	switch w.is {
	case up:
		return api.ErrBusy
	case corrupt:
		return api.ErrCorrupt
	}
	if w.recovery == nil {
		w.recovery = revive.New(w.where, 0)
	}
	if !w.recovery.Step(w.memory) {
		return api.OK
	}
	refused := w.recovery.Corrupt()
	w.recovery = nil
	if refused {
		w.is = corrupt
		return api.ErrCorrupt
	}
	w.is = up
	return api.OK
}

// ask is a thread that is to do something: none, with an error, if the store is not up, or if there is none such.
func (w *World) ask(t int) (*thread.Thread, api.Errno) {
	if w.is != up {
		return nil, api.ErrOff
	}
	if x := w.Thread(t); x != nil {
		return x, api.OK
	}
	return nil, api.ErrArg
}

// call is the call of a thread that is under way, or none.
func (w *World) call(t int) *api.Call {
	if at := w.under[t]; at != api.None {
		return &w.calls[at]
	}
	return nil
}

// each goes over all threads.
func (w *World) each(do func(t int, x *thread.Thread)) {
	for t, x := range w.threads {
		do(t, x)
	}
}
