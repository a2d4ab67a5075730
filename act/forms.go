package act

import "witan/api"

// register is what an act of that Kind names.
type register struct {
	key   api.Point
	label string
}

// post is what an act of that Kind names.
type post struct {
	seals   [][32]byte
	commits []api.Point
}

// proven is a key and its proof.
type proven struct {
	key   api.Point
	proof api.Proof
}

// dispute is what an act of that Kind names.
type dispute struct {
	against int
	proven
}

// submit is what an act of that Kind names.
type submit struct{ proven }

// withdraw is an act of that Kind, which names nothing.
type withdraw struct{}

// formOf takes a apart: it tells what a's Kind names, and nil, if it is none of the Kinds. The lists in it are those of a, and so it is for looking at alone.
func formOf(a api.Act) any {
	switch a.Kind {
	case api.Register:
		return register{a.Key, a.Label}
	case api.Post:
		return post{a.Seals, a.Commits}
	case api.Dispute:
		return dispute{a.Against, proven{a.Key, a.Proof}}
	case api.Submit:
		return submit{proven{a.Key, a.Proof}}
	case api.Withdraw:
		return withdraw{}
	}
	return nil
}

// whole tells the act that has this form: what the form does not hold is 0.
func whole(form any) api.Act {
	if f, ok := form.(register); ok {
		return api.Act{Kind: api.Register, Key: f.key, Label: f.label}
	}
	if f, ok := form.(post); ok {
		return api.Act{Kind: api.Post, Seals: f.seals, Commits: f.commits}
	}
	if f, ok := form.(dispute); ok {
		return api.Act{Kind: api.Dispute, Against: f.against, Key: f.key, Proof: f.proof}
	}
	if f, ok := form.(submit); ok {
		return api.Act{Kind: api.Submit, Key: f.key, Proof: f.proof}
	}
	return api.Act{Kind: api.Withdraw}
}

// fault tells the first thing that is wrong with a form, in the order of Check.
func fault(form any) api.Errno {
	if f, ok := form.(register); ok {
		return registerFault(f)
	}
	if f, ok := form.(post); ok {
		return postFault(f)
	}
	if f, ok := form.(dispute); ok {
		return disputeFault(f)
	}
	if f, ok := form.(submit); ok {
		return provenFault(f.proven)
	}
	return api.OK
}

// laid tells b, and behind it the bytes of a form. It was made of an act of that Kind, so that its type is known.
func laid(b []byte, kind int, form any) []byte {
	switch kind {
	case api.Register:
		return layRegister(b, form.(register))
	case api.Post:
		return layPost(b, form.(post))
	case api.Dispute:
		f := form.(dispute)
		return layProven(append(b, byte(f.against)), f.proven)
	case api.Submit:
		return layProven(b, form.(submit).proven)
	}
	return b
}
