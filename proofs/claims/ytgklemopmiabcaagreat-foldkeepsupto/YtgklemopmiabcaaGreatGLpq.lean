/-
  Loops over records.
-/
import Derived.Test.YtgklemopmiabcaaGreatF13Apl
import Derived.Test.YtgklemopmiabcaaGreatGShn
import Derived.Test.YtgklemopmiabcaaGreatGSme
import Derived.Test.YtgklemopmiabcaaGreatF13Cl
import Derived.Test.YtgklemopmiabcaaGreatGOwn
namespace Go.Proofs.YtgklemopmiabcaaGreat.f13
open Go.RowKit Go.Shelf Go.Sort
open Go.Lib hiding intOf

theorem putL_mem {α κ:Type} [BEq κ] {key:α→κ} {lt:κ→κ→Bool} {l:List α} {x y:α} (h:y∈putL key lt l x):y=x∨y∈l:=by
 unfold putL at h
 split at h
 · rcases List.mem_or_eq_of_mem_set h with h | h
   · exact .inr h
   · exact .inl h
 · split at h
   · rcases List.mem_append.1 h with h | h
     · exact .inr (List.mem_of_mem_take h)
     · rcases List.mem_cons.1 h with h | h
       · exact .inl h
       · exact .inr (List.mem_of_mem_drop h)
   · rcases List.mem_append.1 h with h | h
     · exact .inr h
     · exact .inl (List.mem_singleton.1 h)
theorem chgL_len {α:Type} (q:α→Bool) (f:α→α):∀l:List α,(chgL q f l).length=l.length
 | []=>rfl
 | x::t=>by
   unfold chgL
   split
   · rfl
   · simp [chgL_len q f t]
theorem chgL_mem {α:Type} {q:α→Bool} {f:α→α} {y:α}:∀{l:List α},y∈chgL q f l→y∈l∨∃z∈l,y=f z
 | [],h=>.inl h
 | x::t,h=>by
   unfold chgL at h
   split at h
   · rcases List.mem_cons.1 h with h | h
     · exact .inr ⟨x,List.mem_cons_self ..,h⟩
     · exact .inl (List.mem_cons_of_mem _ h)
   · rcases List.mem_cons.1 h with h | h
     · exact .inl (h ▸ List.mem_cons_self ..)
     · rcases chgL_mem h with h | ⟨z,hz,e⟩
       · exact .inl (List.mem_cons_of_mem _ h)
       · exact .inr ⟨z,List.mem_cons_of_mem _ hz,e⟩
theorem filter_len {α:Type} (q:α→Bool) (l:List α):(l.filter q).length≤l.length:=List.length_filter_le q l
theorem eff_ind {P:St→Prop} (s:St) (r:Rc) (h1:r.kd=1→P (eDeployed s r)) (h2:r.kd=2→P (eBegan s r)) (h3:r.kd=3→P (eEntered s r)) (h4:r.kd=4→P (eLeft s r)) (h6:r.kd=6→P (eJob s r)) (h7:r.kd=7→P (eTaken s r)) (h8:r.kd=8→P (eBack s r)) (h9:r.kd=9→P (eVars s r)) (h10:r.kd=10→P (eTimer s r)) (h11:r.kd=11→P (eSub s r)) (h12:r.kd=12→P (eOpen s r)) (h13:r.kd=13→P (eStuck s r)) (h14:r.kd=14→P (eFreed s r)) (h15:r.kd=15→P (eGone s r)) (h16:r.kd=16→P (eGone s r)) (h17:r.kd=17→P (eKept s r)) (h18:r.kd=18→P (eListed s r)) (h19:r.kd=19→P (ePublished s r)) (h20:r.kd=20→P (eExpired s r)) (h21:r.kd=21→P (eSending s r)) (h22:r.kd=22→P (eMatched s r)) (h23:r.kd=23→P (eMissed s r)) (h0:(∀k∈kinds,¬r.kd=k)→P s):P (eff s r):=by
 unfold f13.eff
 by_cases k1:r.kd=1
 · rw [if_pos k1];exact h1 k1
 by_cases k2:r.kd=2
 · rw [if_neg k1,if_pos k2];exact h2 k2
 by_cases k3:r.kd=3
 · rw [if_neg k1,if_neg k2,if_pos k3];exact h3 k3
 by_cases k4:r.kd=4
 · rw [if_neg k1,if_neg k2,if_neg k3,if_pos k4];exact h4 k4
 by_cases k6:r.kd=6
 · rw [if_neg k1,if_neg k2,if_neg k3,if_neg k4,if_pos k6];exact h6 k6
 by_cases k7:r.kd=7
 · rw [if_neg k1,if_neg k2,if_neg k3,if_neg k4,if_neg k6,if_pos k7];exact h7 k7
 by_cases k8:r.kd=8
 · rw [if_neg k1,if_neg k2,if_neg k3,if_neg k4,if_neg k6,if_neg k7,if_pos k8];exact h8 k8
 by_cases k9:r.kd=9
 · rw [if_neg k1,if_neg k2,if_neg k3,if_neg k4,if_neg k6,if_neg k7,if_neg k8,if_pos k9];exact h9 k9
 by_cases k10:r.kd=10
 · rw [if_neg k1,if_neg k2,if_neg k3,if_neg k4,if_neg k6,if_neg k7,if_neg k8,if_neg k9,if_pos k10];exact h10 k10
 by_cases k11:r.kd=11
 · rw [if_neg k1,if_neg k2,if_neg k3,if_neg k4,if_neg k6,if_neg k7,if_neg k8,if_neg k9,if_neg k10,if_pos k11];exact h11 k11
 by_cases k12:r.kd=12
 · rw [if_neg k1,if_neg k2,if_neg k3,if_neg k4,if_neg k6,if_neg k7,if_neg k8,if_neg k9,if_neg k10,if_neg k11,if_pos k12];exact h12 k12
 by_cases k13:r.kd=13
 · rw [if_neg k1,if_neg k2,if_neg k3,if_neg k4,if_neg k6,if_neg k7,if_neg k8,if_neg k9,if_neg k10,if_neg k11,if_neg k12,if_pos k13];exact h13 k13
 by_cases k14:r.kd=14
 · rw [if_neg k1,if_neg k2,if_neg k3,if_neg k4,if_neg k6,if_neg k7,if_neg k8,if_neg k9,if_neg k10,if_neg k11,if_neg k12,if_neg k13,if_pos k14];exact h14 k14
 by_cases k15:r.kd=15
 · rw [if_neg k1,if_neg k2,if_neg k3,if_neg k4,if_neg k6,if_neg k7,if_neg k8,if_neg k9,if_neg k10,if_neg k11,if_neg k12,if_neg k13,if_neg k14,if_pos k15];exact h15 k15
 by_cases k16:r.kd=16
 · rw [if_neg k1,if_neg k2,if_neg k3,if_neg k4,if_neg k6,if_neg k7,if_neg k8,if_neg k9,if_neg k10,if_neg k11,if_neg k12,if_neg k13,if_neg k14,if_neg k15,if_pos k16];exact h16 k16
 by_cases k17:r.kd=17
 · rw [if_neg k1,if_neg k2,if_neg k3,if_neg k4,if_neg k6,if_neg k7,if_neg k8,if_neg k9,if_neg k10,if_neg k11,if_neg k12,if_neg k13,if_neg k14,if_neg k15,if_neg k16,if_pos k17];exact h17 k17
 by_cases k18:r.kd=18
 · rw [if_neg k1,if_neg k2,if_neg k3,if_neg k4,if_neg k6,if_neg k7,if_neg k8,if_neg k9,if_neg k10,if_neg k11,if_neg k12,if_neg k13,if_neg k14,if_neg k15,if_neg k16,if_neg k17,if_pos k18];exact h18 k18
 by_cases k19:r.kd=19
 · rw [if_neg k1,if_neg k2,if_neg k3,if_neg k4,if_neg k6,if_neg k7,if_neg k8,if_neg k9,if_neg k10,if_neg k11,if_neg k12,if_neg k13,if_neg k14,if_neg k15,if_neg k16,if_neg k17,if_neg k18,if_pos k19];exact h19 k19
 by_cases k20:r.kd=20
 · rw [if_neg k1,if_neg k2,if_neg k3,if_neg k4,if_neg k6,if_neg k7,if_neg k8,if_neg k9,if_neg k10,if_neg k11,if_neg k12,if_neg k13,if_neg k14,if_neg k15,if_neg k16,if_neg k17,if_neg k18,if_neg k19,if_pos k20];exact h20 k20
 by_cases k21:r.kd=21
 · rw [if_neg k1,if_neg k2,if_neg k3,if_neg k4,if_neg k6,if_neg k7,if_neg k8,if_neg k9,if_neg k10,if_neg k11,if_neg k12,if_neg k13,if_neg k14,if_neg k15,if_neg k16,if_neg k17,if_neg k18,if_neg k19,if_neg k20,if_pos k21];exact h21 k21
 by_cases k22:r.kd=22
 · rw [if_neg k1,if_neg k2,if_neg k3,if_neg k4,if_neg k6,if_neg k7,if_neg k8,if_neg k9,if_neg k10,if_neg k11,if_neg k12,if_neg k13,if_neg k14,if_neg k15,if_neg k16,if_neg k17,if_neg k18,if_neg k19,if_neg k20,if_neg k21,if_pos k22];exact h22 k22
 by_cases k23:r.kd=23
 · rw [if_neg k1,if_neg k2,if_neg k3,if_neg k4,if_neg k6,if_neg k7,if_neg k8,if_neg k9,if_neg k10,if_neg k11,if_neg k12,if_neg k13,if_neg k14,if_neg k15,if_neg k16,if_neg k17,if_neg k18,if_neg k19,if_neg k20,if_neg k21,if_neg k22,if_pos k23];exact h23 k23
 rw [if_neg k1,if_neg k2,if_neg k3,if_neg k4,if_neg k6,if_neg k7,if_neg k8,if_neg k9,if_neg k10,if_neg k11,if_neg k12,if_neg k13,if_neg k14,if_neg k15,if_neg k16,if_neg k17,if_neg k18,if_neg k19,if_neg k20,if_neg k21,if_neg k22,if_neg k23];exact h0 (fun k hk=>by simp only [kinds,List.mem_cons,List.not_mem_nil,or_false] at hk;omega)
structure Sn (n:Nat) (s:St):Prop where
 nDe:(s.procs.length+n)*32≤211106232528000
 nIn:(s.insts.length+n)*48≤211106232528000
 nTk:(s.tokens.length+n)*56≤211106232528000
 nJb:(s.jobs.length+n)*64≤211106232528000
 nTm:(s.timers.length+n)*24≤211106232528000
 nSb:(s.subs.length+n)*64≤211106232528000
 nKp:(s.kept.length+n)*24≤211106232528000
 nLs:(s.listed.length+n)*88≤211106232528000
 nMs:(s.msgs.length+n)*112≤211106232528000
 mIn:∀x∈s.insts,x.vars.length*48≤211106232528000
 mLs:∀x∈s.listed,x.vars.length*48≤211106232528000
 mMs:∀x∈s.msgs,x.vars.length*48≤211106232528000
 kMs:∀x∈s.msgs,(x.its.length+n)*8≤211106232528000
theorem Sn.down {n:Nat} {s:St} (h:Sn (n+1) s):Sn n s :=
 ⟨by have:=h.nDe;omega,by have:=h.nIn;omega,by have:=h.nTk;omega,by have:=h.nJb;omega,by have:=h.nTm;omega,by have:=h.nSb;omega,by have:=h.nKp;omega,by have:=h.nLs;omega,by have:=h.nMs;omega,h.mIn,h.mLs,h.mMs,fun x hx=>by have:=h.kMs x hx;omega⟩
theorem Sn.sy {n:Nat} {s:St} (h:Sn (n+1) s):Sy s :=
 ⟨by have:=h.nDe;omega,by have:=h.nIn;omega,by have:=h.nTk;omega,by have:=h.nJb;omega,by have:=h.nTm;omega,by have:=h.nSb;omega,by have:=h.nKp;omega,by have:=h.nLs;omega,by have:=h.nMs;omega,h.mIn,h.mLs,h.mMs,fun x hx=>by have:=h.kMs x hx;omega⟩
theorem Sn.sz {n:Nat} {s:St} (h:Sn n s):Sz s :=
 ⟨by have:=h.nDe;omega,by have:=h.nIn;omega,by have:=h.nTk;omega,by have:=h.nJb;omega,by have:=h.nTm;omega,by have:=h.nSb;omega,by have:=h.nKp;omega,by have:=h.nLs;omega,by have:=h.nMs;omega,h.mIn,h.mLs,h.mMs,fun x hx=>by have:=h.kMs x hx;omega⟩
theorem Sn.at {n p d:Nat} {s:St} (h:Sn n s):Sn n { s with pos:=p,done:=d }:=⟨h.nDe,h.nIn,h.nTk,h.nJb,h.nTm,h.nSb,h.nKp,h.nLs,h.nMs,h.mIn,h.mLs,h.mMs,h.kMs⟩
theorem Sn.wait {n:Nat} {s:St} (h:Sn n s) (q:Nat→Bool):Sn n (eWait s q) :=
 { h with
   nJb:=by have:=h.nJb;have:=filter_len (fun x=>!q x.token) s.jobs;simp only [eWait];omega
   nTm:=by have:=h.nTm;have:=filter_len (fun x=>!q x.token) s.timers;simp only [eWait];omega
   nSb:=by have:=h.nSb;have:=filter_len (fun x=>!q x.token) s.subs;simp only [eWait];omega }
theorem Sn.eff {n:Nat} {s:St} {r:Rc} (h:Sn (n+1) s) (hv:r.v.length*48≤211106232528000):Sn n (eff s r):=by
 have g:=h.down
 refine eff_ind s r (fun _=>?_) (fun _=>?_) (fun _=>?_) (fun _=>?_) (fun _=>?_) (fun _=>?_) (fun _=>?_) (fun _=>?_) (fun _=>?_) (fun _=>?_) (fun _=>?_) (fun _=>?_) (fun _=>?_) (fun _=>?_) (fun _=>?_) (fun _=>?_) (fun _=>?_) (fun _=>?_) (fun _=>?_) (fun _=>?_) (fun _=>?_) (fun _=>?_) (fun _=>?_)
 · exact { g with nDe:=by have:=h.nDe;have:=putL_len De.kk ltT s.procs ⟨r.a,r.b⟩;simp only [eDeployed];omega }
 · exact { g with
     nIn:=by have:=h.nIn;have:=putL_len In.kk ltU s.insts ⟨r.k1,r.a,.slice none 0 0,r.v⟩;simp only [eBegan];omega
     mIn:=fun x hx=>by
       rcases putL_mem hx with rfl | hx
       · exact hv
       · exact h.mIn x hx }
 · exact { g with nTk:=by have:=h.nTk;have:=putL_len Tk.kk ltU s.tokens ⟨r.k1,r.k2,r.k3,r.n,r.m,[]⟩;simp only [eEntered];omega }
 · exact Sn.wait (s:={ s with tokens:=s.tokens.filter fun x=>!(x.kk==r.k1) }) { g with nTk:=by have:=g.nTk;have:=filter_len (fun x:Tk=>!(x.kk==r.k1)) s.tokens;simp only;omega } _
 · exact { g with nJb:=by have:=h.nJb;have:=putL_len Jb.kk ltU s.jobs ⟨r.k1,r.k2,r.a,r.n,[],0⟩;simp only [eJob];omega }
 · exact { g with nJb:=by have:=g.nJb;simp only [eTaken,chgL_len];omega }
 · exact { g with nJb:=by have:=g.nJb;simp only [eBack,chgL_len];omega }
 · exact { g with
     nIn:=by have:=g.nIn;simp only [eVars,chgL_len];omega
     mIn:=fun x hx=>by
       rcases chgL_mem hx with hx | ⟨z,-,rfl⟩
       · exact h.mIn x hx
       · exact hv }
 · exact { g with nTm:=by have:=h.nTm;have:=putL_len Tm.kk ltP s.timers ⟨r.k1,r.n,r.m⟩;simp only [eTimer];omega }
 · exact { g with nSb:=by have:=h.nSb;have:=putL_len Sb.kk ltP s.subs ⟨r.k1,r.k2,r.n,r.a,r.b,false⟩;simp only [eSub];omega }
 · exact { g with nSb:=by have:=g.nSb;simp only [eOpen,chgL_len];omega }
 · exact { g with nTk:=by have:=g.nTk;simp only [eStuck,chgL_len];omega }
 · exact { g with nTk:=by have:=g.nTk;simp only [eFreed,chgL_len];omega }
 · exact Sn.wait (s:={ s with insts:=s.insts.filter (fun x=>!(x.kk==r.k1)),tokens:=s.tokens.filter (fun x=>!(x.inst==r.k1)) }) { g with
     nIn:=by have:=g.nIn;have:=filter_len (fun x:In=>!(x.kk==r.k1)) s.insts;simp only;omega
     nTk:=by have:=g.nTk;have:=filter_len (fun x:Tk=>!(x.inst==r.k1)) s.tokens;simp only;omega
     mIn:=fun x hx=>h.mIn x (List.mem_filter.1 hx).1 } _
 · exact Sn.wait (s:={ s with insts:=s.insts.filter (fun x=>!(x.kk==r.k1)),tokens:=s.tokens.filter (fun x=>!(x.inst==r.k1)) }) { g with
     nIn:=by have:=g.nIn;have:=filter_len (fun x:In=>!(x.kk==r.k1)) s.insts;simp only;omega
     nTk:=by have:=g.nTk;have:=filter_len (fun x:Tk=>!(x.inst==r.k1)) s.tokens;simp only;omega
     mIn:=fun x hx=>h.mIn x (List.mem_filter.1 hx).1 } _
 · exact { g with nKp:=by have:=h.nKp;have:=putL_len Kp.kk ltP s.kept ⟨r.k1,r.k2,r.n⟩;simp only [eKept];omega }
 · exact { g with
     nLs:=by have:=h.nLs;have:=putL_len Ls.kk ltP s.listed ⟨r.k1,r.k2,r.n,r.a,r.b,0,.slice none 0 0,[]⟩;simp only [eListed];omega
     mLs:=fun x hx=>by
       rcases putL_mem hx with rfl | hx
       · exact Nat.zero_le _
       · exact h.mLs x hx }
 · exact { g with
     nMs:=by have:=h.nMs;have:=putL_len Ms.kk ltU s.msgs ⟨r.k1,r.a,r.b,r.c,r.n,.slice none 0 0,.slice none 0 0,r.v,[]⟩;simp only [ePublished];omega
     mMs:=fun x hx=>by
       rcases putL_mem hx with rfl | hx
       · exact hv
       · exact h.mMs x hx
     kMs:=fun x hx=>by
       rcases putL_mem hx with rfl | hx
       · have:=h.nMs;simp only [List.length_nil];omega
       · exact g.kMs x hx }
 · exact { g with
     nMs:=by have:=g.nMs;have:=filter_len (fun x:Ms=>!(x.kk==r.k1)) s.msgs;simp only [eExpired];omega
     mMs:=fun x hx=>h.mMs x (List.mem_filter.1 hx).1
     kMs:=fun x hx=>g.kMs x (List.mem_filter.1 hx).1 }
 · unfold eSending
   split
   · rename_i l m hl hm
     exact { g with
       nLs:=by have:=g.nLs;simp only [sendL,chgL_len];omega
       nMs:=by have:=g.nMs;simp only [sendL,chgL_len];omega
       mLs:=fun x hx=>by
         rcases chgL_mem hx with hx | ⟨z,-,rfl⟩
         · exact h.mLs x hx
         · exact h.mMs m (List.mem_of_find?_eq_some hm)
       mMs:=fun x hx=>by
         rcases chgL_mem hx with hx | ⟨z,hz,rfl⟩
         · exact h.mMs x hx
         · exact h.mMs z hz
       kMs:=fun x hx=>by
         rcases chgL_mem hx with hx | ⟨z,hz,rfl⟩
         · exact g.kMs x hx
         · have:=h.kMs z hz;simp only [List.length_append,List.length_cons,List.length_nil];omega }
   · exact g
 · exact { g with
     nLs:=by have:=g.nLs;have:=filter_len (fun x:Ls=>!(x.kk==(r.k1,r.n))) s.listed;simp only [eMatched];omega
     mLs:=fun x hx=>h.mLs x (List.mem_filter.1 hx).1 }
 · unfold eMissed
   split
   · rename_i l hl
     exact { g with
       nLs:=by have:=g.nLs;have:=filter_len (fun x:Ls=>!(x.kk==(r.k1,r.n))) s.listed;simp only [missL];omega
       nMs:=by have:=g.nMs;simp only [missL,chgL_len];omega
       mLs:=fun x hx=>h.mLs x (List.mem_filter.1 hx).1
       mMs:=fun x hx=>by
         rcases chgL_mem hx with hx | ⟨z,hz,rfl⟩
         · exact h.mMs x hx
         · exact h.mMs z hz
       kMs:=fun x hx=>by
         rcases chgL_mem hx with hx | ⟨z,hz,rfl⟩
         · exact g.kMs x hx
         · have:=g.kMs z hz;have:=filter_len (fun y=>!(y==l.inst)) z.its;simp only;omega }
   · exact g
 · exact g
theorem Sn.apl {n ps:Nat} {s:St} {r:Rc} (h:Sn (n+1) s) (hv:r.v.length*48≤211106232528000):Sn n (apl s ps r):=by
 unfold f13.apl
 split
 · exact Sn.eff h.at hv
 · split
   · exact h.down.at
   · exact Sn.at (d:=s.done) h.down
theorem Kr.at {p d:Nat} {s:St} (h:Kr s):Kr { s with pos:=p,done:=d }:=⟨h.kTk,h.kJb,h.kTm,h.kSb⟩
theorem Kr.wait {s:St} (h:Kr s) (q:Nat→Bool):Kr (eWait s q) :=
 ⟨h.kTk,fun x hx=>h.kJb x (List.mem_filter.1 hx).1,fun x hx=>h.kTm x (List.mem_filter.1 hx).1,fun x hx=>h.kSb x (List.mem_filter.1 hx).1⟩
theorem Kr.eff {s:St} {r:Rc} (h:Kr s) (ho:r.ok):Kr (eff s r):=by
 obtain ⟨-,k1,k2⟩:=ho
 refine eff_ind s r (fun _=>?_) (fun _=>?_) (fun _=>?_) (fun _=>?_) (fun _=>?_) (fun _=>?_) (fun _=>?_) (fun _=>?_) (fun _=>?_) (fun _=>?_) (fun _=>?_) (fun _=>?_) (fun _=>?_) (fun _=>?_) (fun _=>?_) (fun _=>?_) (fun _=>?_) (fun _=>?_) (fun _=>?_) (fun _=>?_) (fun _=>?_) (fun _=>?_) (fun _=>?_)
 · exact ⟨h.kTk,h.kJb,h.kTm,h.kSb⟩
 · exact ⟨h.kTk,h.kJb,h.kTm,h.kSb⟩
 · exact ⟨fun x hx=>by rcases putL_mem hx with rfl | hx;exact k1;exact h.kTk x hx,h.kJb,h.kTm,h.kSb⟩
 · exact Kr.wait (s:={ s with tokens:=s.tokens.filter fun x=>!(x.kk==r.k1) }) ⟨fun x hx=>h.kTk x (List.mem_filter.1 hx).1,h.kJb,h.kTm,h.kSb⟩ _
 · exact ⟨h.kTk,fun x hx=>by rcases putL_mem hx with rfl | hx;exact k2;exact h.kJb x hx,h.kTm,h.kSb⟩
 · exact ⟨h.kTk,fun x hx=>by rcases chgL_mem hx with hx | ⟨z,hz,rfl⟩;exact h.kJb x hx;exact h.kJb z hz,h.kTm,h.kSb⟩
 · exact ⟨h.kTk,fun x hx=>by rcases chgL_mem hx with hx | ⟨z,hz,rfl⟩;exact h.kJb x hx;exact h.kJb z hz,h.kTm,h.kSb⟩
 · exact ⟨h.kTk,h.kJb,h.kTm,h.kSb⟩
 · exact ⟨h.kTk,h.kJb,fun x hx=>by rcases putL_mem hx with rfl | hx;exact k1;exact h.kTm x hx,h.kSb⟩
 · exact ⟨h.kTk,h.kJb,h.kTm,fun x hx=>by rcases putL_mem hx with rfl | hx;exact k1;exact h.kSb x hx⟩
 · exact ⟨h.kTk,h.kJb,h.kTm,fun x hx=>by rcases chgL_mem hx with hx | ⟨z,hz,rfl⟩;exact h.kSb x hx;exact h.kSb z hz⟩
 · exact ⟨fun x hx=>by rcases chgL_mem hx with hx | ⟨z,hz,rfl⟩;exact h.kTk x hx;exact h.kTk z hz,h.kJb,h.kTm,h.kSb⟩
 · exact ⟨fun x hx=>by rcases chgL_mem hx with hx | ⟨z,hz,rfl⟩;exact h.kTk x hx;exact h.kTk z hz,h.kJb,h.kTm,h.kSb⟩
 · exact Kr.wait (s:={ s with insts:=s.insts.filter (fun x=>!(x.kk==r.k1)),tokens:=s.tokens.filter (fun x=>!(x.inst==r.k1)) }) ⟨fun x hx=>h.kTk x (List.mem_filter.1 hx).1,h.kJb,h.kTm,h.kSb⟩ _
 · exact Kr.wait (s:={ s with insts:=s.insts.filter (fun x=>!(x.kk==r.k1)),tokens:=s.tokens.filter (fun x=>!(x.inst==r.k1)) }) ⟨fun x hx=>h.kTk x (List.mem_filter.1 hx).1,h.kJb,h.kTm,h.kSb⟩ _
 · exact ⟨h.kTk,h.kJb,h.kTm,h.kSb⟩
 · exact ⟨h.kTk,h.kJb,h.kTm,h.kSb⟩
 · exact ⟨h.kTk,h.kJb,h.kTm,h.kSb⟩
 · exact ⟨h.kTk,h.kJb,h.kTm,h.kSb⟩
 · unfold eSending
   split
   · exact ⟨h.kTk,h.kJb,h.kTm,h.kSb⟩
   · exact h
 · exact ⟨h.kTk,h.kJb,h.kTm,h.kSb⟩
 · unfold eMissed
   split
   · exact ⟨h.kTk,h.kJb,h.kTm,h.kSb⟩
   · exact h
 · exact h
theorem Kr.apl {ps:Nat} {s:St} {r:Rc} (h:Kr s) (ho:r.ok):Kr (apl s ps r):=by
 unfold f13.apl
 split
 · exact Kr.eff h.at ho
 · split
   · exact h.at
   · exact Kr.at (d:=s.done) h
end Go.Proofs.YtgklemopmiabcaaGreat.f13
namespace Go.Proofs.YtgklemopmiabcaaGreat.f13
open Go.RowKit Go.Shelf Go.Sort
open Go.Lib hiding intOf

def fl (a:St) (off:Nat) (l:List Rc):Nat→St
 | 0=>a
 | i+1=>match l[i]? with
   | some r=>apl (fl a off l i) (i+off) r
   | none=>fl a off l i
theorem fl_step {a:St} {off:Nat} {l:List Rc} {i:Nat} (hi:i<l.length):fl a off l (i+1)=apl (fl a off l i) (i+off) l[i]:=by
 conv=>lhs;unfold fl
 rw [List.getElem?_eq_getElem hi]
theorem fl_sn {a:St} {off:Nat} {l:List Rc} (h:Sn l.length a) (hv:∀x∈l,x.v.length*48≤211106232528000):∀i,i≤l.length→Sn (l.length-i) (fl a off l i)
 | 0,_=>h
 | i+1,hi=>by
   rw [fl_step (by omega)]
   have:=fl_sn (off:=off) h hv i (by omega)
   rw [show l.length-i=l.length-(i+1)+1 by omega] at this
   exact this.apl (hv _ (List.getElem_mem _))
theorem fl_kr {a:St} {off:Nat} {l:List Rc} (h:Kr a) (ho:∀x∈l,x.ok):∀i,i≤l.length→Kr (fl a off l i)
 | 0,_=>h
 | i+1,hi=>by
   rw [fl_step (by omega)]
   exact (fl_kr (off:=off) h ho i (by omega)).apl (ho _ (List.getElem_mem _))
def Bc (w:World) (sb:Nat) (t:St):Prop:=w.heap[sb]?=some (.cells t.c.toArray 33 (0,0))
theorem Bc.cells {w:World} {sb:Nat} {t:St} (h:Bc w sb t):(∀(j:Nat) (u:Value),t.c[j]?=some u→w.cell? ⟨sb,j,none⟩=some u)∧∀j:Nat,w.frozen? ⟨sb,j,none⟩=false:=by
 unfold Bc at h
 exact ⟨fun j u hj=>by simp [World.cell?,h,hj],fun j=>by simp [World.frozen?,h]⟩
theorem Bc.lt {w:World} {sb:Nat} {t:St} (h:Bc w sb t):sb<w.heap.size:=(Array.getElem?_eq_some_iff.1 h).1
theorem Bc.up {w w':World} {sb:Nat} {t:St} (h:Bc w sb t) (hb:Below w.heap.size w w'):Bc w' sb t:=(hb.block _ h.lt).trans h
theorem Bc.lay {w w2:World} {sb:Nat} {t t2:St} (h:Bc w sb t) (ho:Own w.heap.size w2 t2.rows) (hb:Below w.heap.size w w2):Bc (set12 w2 sb (.int .u64 (t2.pos:Int)) (.int .u64 (t2.done:Int)) (.int .u64 (t2.made:Int)) t2.vDe t2.vIn t2.vTk t2.vJb t2.vTm t2.vSb t2.vKp t2.vLs t2.vMs) sb t2∧Sv (set12 w2 sb (.int .u64 (t2.pos:Int)) (.int .u64 (t2.done:Int)) (.int .u64 (t2.made:Int)) t2.vDe t2.vIn t2.vTk t2.vJb t2.vTm t2.vSb t2.vKp t2.vLs t2.vMs) t2∧Ch (fun g=>g=sb) w (set12 w2 sb (.int .u64 (t2.pos:Int)) (.int .u64 (t2.done:Int)) (.int .u64 (t2.made:Int)) t2.vDe t2.vIn t2.vTk t2.vJb t2.vTm t2.vSb t2.vKp t2.vLs t2.vMs):=by
 have h2:=h.up hb
 refine ⟨?_,Own.sv (Own.of12 ho h.lt),(Ch.of_below hb).trans (set12_ch w2 sb _ _ _ _ _ _ _ _ _ _ _ _)⟩
 unfold Bc at h2 ⊢
 exact set12_obj _ _ _ _ _ _ _ _ _ _ _ _ h2
theorem St.cut {w:World} {s:St} (h:Sv w s):(∃a n c,s.vDe=.slice a n c)∧(∃a n c,s.vIn=.slice a n c)∧(∃a n c,s.vTk=.slice a n c)∧(∃a n c,s.vJb=.slice a n c)∧(∃a n c,s.vTm=.slice a n c)∧(∃a n c,s.vSb=.slice a n c)∧(∃a n c,s.vKp=.slice a n c)∧(∃a n c,s.vLs=.slice a n c)∧(∃a n c,s.vMs=.slice a n c):=by
 refine ⟨?_,?_,?_,?_,?_,?_,?_,?_,?_⟩
 · obtain ⟨a,c,e,-⟩:=h.rDe;exact ⟨a,_,c,e⟩
 · obtain ⟨a,c,e,-⟩:=h.rIn;exact ⟨a,_,c,e⟩
 · obtain ⟨a,c,e,-⟩:=h.rTk;exact ⟨a,_,c,e⟩
 · obtain ⟨a,c,e,-⟩:=h.rJb;exact ⟨a,_,c,e⟩
 · obtain ⟨a,c,e,-⟩:=h.rTm;exact ⟨a,_,c,e⟩
 · obtain ⟨a,c,e,-⟩:=h.rSb;exact ⟨a,_,c,e⟩
 · obtain ⟨a,c,e,-⟩:=h.rKp;exact ⟨a,_,c,e⟩
 · obtain ⟨a,c,e,-⟩:=h.rLs;exact ⟨a,_,c,e⟩
 · obtain ⟨a,c,e,-⟩:=h.rMs;exact ⟨a,_,c,e⟩

structure Lp (w W1:World) (sb:Nat) (v:Value) (l:List Rc) (a:St) (off i:Nat) (wr:World) (t:St):Prop where
 box:Bc wr sb t
 sv:Sv wr t
 is:t.e=fl a off l i
 ch:Ch (fun g=>g=sb) W1 wr
 bel:Below w.heap.size w wr
theorem Lp.call {w W1 wr:World} {sb off i:Nat} {v:Value} {l:List Rc} {a t:St} (h:Lp w W1 sb v l a off i wr t) (hi:i<l.length) (hn:Sn l.length a) (hk:Kr a) (hr:∀x∈l,Rr 4 Vr.c w x.vv x.v∧x.ok) (hv:∀x∈l,x.v.length*48≤211106232528000) (W:World) (hW:Below wr.heap.size wr W):Calls Tryz.prog 11 #[.agg t.c.toArray,.int .u64 ((i+off:Nat):Int),.agg l[i].cs.toArray] W (Apd W (fl a off l (i+1))):=by
 have h1:=fl_sn (off:=off) hn hv i (by omega)
 rw [show l.length-i=l.length-(i+1)+1 by omega] at h1
 have h2:=fl_kr (off:=off) hk (fun x hx=>(hr x hx).2) i (by omega)
 rw [← h.is] at h1 h2
 have hm:=List.getElem_mem hi
 have:=Apply_any (ps:=i+off) (r:=l[i]) (h.sv.up hW) h1.sy.of_e h2.of_e (((hr _ hm).1.up h.bel).up (bel_of (Below.refl _ _) hW (Nat.le_refl _))) (hv _ hm) (hr _ hm).2
 rw [h.is,← fl_step hi] at this
 exact this
theorem Lp.next {w W1 wr w2:World} {sb off i:Nat} {v:Value} {l:List Rc} {a t t2:St} (h:Lp w W1 sb v l a off i wr t) (hsb:w.heap.size≤sb) (ho:Own wr.heap.size w2 t2.rows) (he:t2.e=fl a off l (i+1)) (hb:Below wr.heap.size wr w2):Lp w W1 sb v l a off (i+1) (set12 w2 sb (.int .u64 (t2.pos:Int)) (.int .u64 (t2.done:Int)) (.int .u64 (t2.made:Int)) t2.vDe t2.vIn t2.vTk t2.vJb t2.vTm t2.vSb t2.vKp t2.vLs t2.vMs) t2:=by
 obtain ⟨h1,h2,h3⟩:=h.box.lay ho hb
 exact ⟨h1,h2,he,h.ch.trans h3,h.bel.trans (h3.below h.bel.size (fun g hg e=>by omega))⟩
theorem rc_cells {w:World} {v:Value} {l:List Rc} (h:Rr 13 Rc.cs w v l) {i:Nat} (hi:i<l.length):∃b off cap,v=.slice (some ⟨b,off,none⟩) l.length cap∧b<w.heap.size∧∀W,Below w.heap.size w W→W.cell? ⟨b,off+i*13+0,none⟩=some (.int .i64 l[i].cl)∧W.cell? ⟨b,off+i*13+1,none⟩=some (.int .i64 l[i].kd)∧W.cell? ⟨b,off+i*13+2,none⟩=some (.int .u64 (l[i].fr:Int))∧W.cell? ⟨b,off+i*13+3,none⟩=some (.int .i64 l[i].tm)∧W.cell? ⟨b,off+i*13+4,none⟩=some (.int .u64 (l[i].k1:Int))∧W.cell? ⟨b,off+i*13+5,none⟩=some (.int .u64 (l[i].k2:Int))∧W.cell? ⟨b,off+i*13+6,none⟩=some (.int .u64 (l[i].k3:Int))∧W.cell? ⟨b,off+i*13+7,none⟩=some (.int .i64 l[i].n)∧W.cell? ⟨b,off+i*13+8,none⟩=some (.int .i64 l[i].m)∧W.cell? ⟨b,off+i*13+9,none⟩=some (.string (S l[i].a))∧W.cell? ⟨b,off+i*13+10,none⟩=some (.string (S l[i].b))∧W.cell? ⟨b,off+i*13+11,none⟩=some (.string (S l[i].c))∧W.cell? ⟨b,off+i*13+12,none⟩=some (l[i].vv):=by
 obtain ⟨b,off,cap,hv,-,hb,hc⟩:=h.at hi
 exact ⟨b,off,cap,hv,hb,fun W hW=>⟨hc W hW i hi 0 _ rfl,hc W hW i hi 1 _ rfl,hc W hW i hi 2 _ rfl,hc W hW i hi 3 _ rfl,hc W hW i hi 4 _ rfl,hc W hW i hi 5 _ rfl,hc W hW i hi 6 _ rfl,hc W hW i hi 7 _ rfl,hc W hW i hi 8 _ rfl,hc W hW i hi 9 _ rfl,hc W hW i hi 10 _ rfl,hc W hW i hi 11 _ rfl,hc W hW i hi 12 _ rfl⟩⟩
end Go.Proofs.YtgklemopmiabcaaGreat.f13
namespace Go.Proofs.YtgklemopmiabcaaGreat.f13
open Go.RowKit Go.Shelf Go.Sort
open Go.Lib hiding intOf

end Go.Proofs.YtgklemopmiabcaaGreat.f13
namespace Go.Proofs.YtgklemopmiabcaaGreat.f13
open Go.RowKit Go.Shelf Go.Sort
open Go.Lib hiding intOf

end Go.Proofs.YtgklemopmiabcaaGreat.f13
namespace Go.Proofs.YtgklemopmiabcaaGreat.f13
open Go.RowKit Go.Shelf Go.Sort
open Go.Lib hiding intOf

theorem Sn.to_e {n:Nat} {s:St} (h:Sn n s):Sn n s.e:=by
 refine ⟨h.nDe,?_,h.nTk,h.nJb,h.nTm,h.nSb,h.nKp,?_,?_,?_,?_,?_,?_⟩
 · simp only [St.e,List.length_map];exact h.nIn
 · simp only [St.e,List.length_map];exact h.nLs
 · simp only [St.e,List.length_map];exact h.nMs
 · intro x hx
   obtain ⟨y,hy,rfl⟩:=List.mem_map.1 hx
   exact h.mIn y hy
 · intro x hx
   obtain ⟨y,hy,rfl⟩:=List.mem_map.1 hx
   exact h.mLs y hy
 · intro x hx
   obtain ⟨y,hy,rfl⟩:=List.mem_map.1 hx
   exact h.mMs y hy
 · intro x hx
   obtain ⟨y,hy,rfl⟩:=List.mem_map.1 hx
   exact h.kMs y hy
theorem Lp.up {w W1 wr wr':World} {sb off i:Nat} {v:Value} {l:List Rc} {a t:St} (h:Lp w W1 sb v l a off i wr t) (hb:Below wr.heap.size wr wr'):Lp w W1 sb v l a off i wr' t:=⟨h.box.up hb,h.sv.up hb,h.is,h.ch.trans (Ch.of_below hb),bel_of h.bel hb (Nat.le_refl _)⟩
theorem Lp.old {w w5 W1 wr:World} {sb off i:Nat} {v:Value} {l:List Rc} {a t:St} (h:Lp w W1 sb v l a off i wr t) (hs:w5.heap.size=sb) (h1:Below w5.heap.size w5 W1):Below w5.heap.size w5 wr:=h1.trans (h.ch.below h1.size (fun k hk e=>by omega))
theorem Bc.new (w:World) (s:St):Bc (w.alloc (.cells s.c.toArray 33)) w.heap.size s:=heap_alloc_new w _
end Go.Proofs.YtgklemopmiabcaaGreat.f13
