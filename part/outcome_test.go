package part

import (
	"slices"
	"testing"

	"wherry/api"
	"wherry/rec"
)

// P18.3: of a command that made no event, and wasn't refused either, a Refusal with N 0
// tells that it is done. (No kind of command comes to that: those that do nothing make an
// EDone.)
func TestNoEvents(t *testing.T) {
	for kind := api.CDeploy; kind <= api.CMissed; kind++ {
		c := asked{pos: 7, r: api.Record{Class: api.Command, Kind: kind, Time: 100, Key: 5}}
		want := []api.Record{{Class: api.Refusal, Kind: kind, From: 7, Time: 100, Key: 5}}
		if got := (outcome{}).records(c); !slices.EqualFunc(got, want, rec.Same) {
			t.Errorf("%+v, want %+v", got, want)
		}
		x := (outcome{}).reply(c)
		if x.Pos != 7 || x.Kind != kind || x.Err != api.OK || x.Key != 0 || x.Jobs != nil {
			t.Errorf("%+v", x)
		}
	}
}
