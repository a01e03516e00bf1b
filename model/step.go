package model

import "stele/api"

// step: an operation under way, the state that it changes, and its answer.
type step struct {
	api.Op
	state  api.State
	answer api.Result
}

// Step: the state that o leaves at now, and what it answers.
func Step(s api.State, o api.Op, now uint64) (api.State, api.Result) {
	s.Clock = max(s.Clock, min(now, api.MaxTime))
	t := step{Op: o, state: own(s)}
	if e := t.refused(); e != api.OK {
		// What it did ahead of the refusal is forgotten.
		return own(s), api.Result{Err: e}
	}
	return t.state, t.answer
}

// refused: does it, and tells the error by which it was left.
func (t *step) refused() (e api.Errno) {
	defer func() {
		if left := recover(); left != nil {
			e = left.(api.Errno)
		}
	}()
	t.operation()()
	return api.OK
}

// need: leaves the operation by e, if ok does not hold.
func need(ok bool, e api.Errno) {
	if !ok {
		panic(e)
	}
}

// operation: what does an operation of this kind.
func (t *step) operation() func() {
	kinds := [...]func(){
		api.OpMakeBucket:  t.makeBucket,
		api.OpDropBucket:  t.dropBucket,
		api.OpVersioning:  t.setVersioning,
		api.OpDefault:     t.setDefault,
		api.OpPolicy:      t.setPolicy,
		api.OpLifecycle:   t.setLifecycle,
		api.OpPut:         t.put,
		api.OpGet:         t.get,
		api.OpDelete:      t.delete,
		api.OpRetain:      t.retain,
		api.OpHold:        t.hold,
		api.OpList:        t.list,
		api.OpBegin:       t.begin,
		api.OpPart:        t.part,
		api.OpComplete:    t.complete,
		api.OpAbort:       t.abort,
		api.OpSweep:       t.sweep,
		api.OpListBuckets: t.listBuckets,
		api.OpAudit:       t.nothing,
	}
	need(0 < t.Kind && t.Kind < len(kinds), api.ErrArg)
	return kinds[t.Kind]
}

func (t *step) nothing() {}

// bucket: the one that the operation names. ErrBucket: there is none.
func (t *step) bucket() *api.Bucket {
	at, there := find(t.state.Buckets, t.Bucket)
	need(there, api.ErrBucket)
	return &t.state.Buckets[at]
}

// drop: versions go; they are told without data.
func (t *step) drop(goes func(v api.Version) bool) []api.Version {
	var stay, gone []api.Version
	for _, v := range t.state.Versions {
		if goes(v) {
			gone = append(gone, bare(v))
		} else {
			stay = append(stay, v)
		}
	}
	t.state.Versions = stay
	return gone
}

// bare: v without data.
func bare(v api.Version) api.Version {
	v.Data = nil
	return v
}
