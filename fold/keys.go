package fold

import (
	"cmp"

	"wherry/api"
)

// place is the key of what a token has for a node.
type place struct {
	token uint64
	node  int
}

func (a place) below(b place) bool {
	return cmp.Or(cmp.Compare(a.token, b.token), cmp.Compare(a.node, b.node)) < 0
}

// placeOf is where a record of a token and a node belongs.
func placeOf(r api.Record) place { return place{r.Key, int(r.N)} }

func procId(x api.Deployed) string    { return x.Id }
func instKey(x api.Instance) uint64   { return x.Key }
func tokenKey(x api.Token) uint64     { return x.Key }
func jobKey(x api.Job) uint64         { return x.Key }
func messageKey(x api.Message) uint64 { return x.Key }
func timerPlace(x api.Timer) place    { return place{x.Token, x.Node} }
func subPlace(x api.Sub) place        { return place{x.Token, x.Node} }
func keptPlace(x api.Kept) place      { return place{x.Token, x.Node} }
func listedPlace(x api.Listed) place  { return place{x.Token, x.Node} }
