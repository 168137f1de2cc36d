package keep

import (
	"wherry/api"
)

// What the keys and the values of each list's elements are made of, in the order
// of their bytes.

func messageKey(x *api.Message) []field { return []field{key(&x.Key)} }

func messageValue(x *api.Message) []field {
	return []field{
		name(&x.Name), text(&x.For, api.MaxText), name(&x.Id),
		time(&x.Until), variables(&x.Vars), counts(&x.Insts),
	}
}

func instKey(x *api.Instance) []field { return []field{key(&x.Key)} }

func instValue(x *api.Instance) []field {
	return []field{name(&x.Id), variables(&x.Vars)}
}

func jobKey(x *api.Job) []field { return []field{key(&x.Key)} }

func jobValue(x *api.Job) []field {
	return []field{
		count(&x.Token), name(&x.Type), small(&x.Retries),
		name(&x.Worker), time(&x.Until),
	}
}

func keptKey(x *api.Kept) []field { return []field{key(&x.Token), node(&x.Node)} }

func keptValue(x *api.Kept) []field { return []field{count(&x.Message)} }

func listedKey(x *api.Listed) []field { return []field{key(&x.Token), node(&x.Node)} }

func listedValue(x *api.Listed) []field {
	return []field{
		count(&x.Inst), name(&x.Name), text(&x.Key, api.MaxText),
		count(&x.Message), variables(&x.Vars),
	}
}

func procKey(x *api.Deployed) []field { return []field{id(&x.Id)} }

// procValue's text is bounded by its row alone.
func procValue(x *api.Deployed) []field { return []field{text(&x.Bytes, api.MaxCell)} }

func timerKey(x *api.Timer) []field { return []field{key(&x.Token), node(&x.Node)} }

func timerValue(x *api.Timer) []field { return []field{time(&x.When)} }

func subKey(x *api.Sub) []field { return []field{key(&x.Token), node(&x.Node)} }

func subValue(x *api.Sub) []field {
	return []field{
		count(&x.Inst), name(&x.Name), text(&x.Key, api.MaxText), truth(&x.Open),
	}
}

func tokenKey(x *api.Token) []field { return []field{key(&x.Key)} }

func tokenValue(x *api.Token) []field {
	return []field{
		count(&x.Inst), count(&x.Scope), small(&x.Node), small(&x.By), name(&x.Stuck),
	}
}
