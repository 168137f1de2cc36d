package rec

import (
	"wherry/api"
	"wherry/value"
)

// fits: may a record be, as far as its fields go one by one?
func fits(r api.Record) bool {
	return r.Kind >= 1 && r.Kind <= lastKind(r.Class) &&
		(r.From == 0) == (r.Class == api.Command) &&
		r.Time >= 0 && r.Time <= api.MaxTime &&
		len(r.A) <= mostOfA(r) && len(r.B) <= mostOfB(r) && len(r.C) <= api.MaxName &&
		value.Right(r.Vars)
}

// lastKind is the greatest one of a class; 0 of none, so that none has kinds.
func lastKind(class int) int {
	switch class {
	case api.Command, api.Refusal:
		return api.CMissed
	case api.Event:
		return api.EDone
	}
	return 0
}

// CDeploy and EDeployed are the same number: only the class tells them apart.

func mostOfA(r api.Record) int {
	if r.Class == api.Command && r.Kind == api.CDeploy {
		return api.MaxProcess
	}
	return api.MaxName
}

func mostOfB(r api.Record) int {
	if r.Class == api.Event && r.Kind == api.EDeployed {
		return api.MaxProcess
	}
	return api.MaxText
}
