/-
  Loops over records.
-/
import Derived.Test.YtmfempdcpoeicaaGreatF13Apl
import Derived.Test.YtmfempdcpoeicaaGreatGShn
import Derived.Test.YtmfempdcpoeicaaGreatGSme
import Derived.Test.YtmfempdcpoeicaaGreatF13Cl
import Derived.Test.YtmfempdcpoeicaaGreatGOwn
set_option maxHeartbeats 16000000
set_option maxRecDepth 100000
namespace Go.Proofs.YtmfempdcpoeicaaGreat.f13
open Go.RowKit Go.Shelf Go.Sort
open Go.Lib hiding intOf

theorem putL_mem {α κ:Type} [BEq κ] {key:α→κ} {lt:κ→κ→Bool} {l:List α} {x y:α} (h:y∈putL key lt l x):y=x∨y∈l:=by
 unfold putL at h
 split at h
 · rcases List.mem_or_eq_of_mem_set h with h | h
   · exact .inr h
   · exact .inl h
 · split at h
   · rcases List.mem_append.1 h with h | h
     · exact .inr (List.mem_of_mem_take h)
     · rcases List.mem_cons.1 h with h | h
       · exact .inl h
       · exact .inr (List.mem_of_mem_drop h)
   · rcases List.mem_append.1 h with h | h
     · exact .inr h
     · exact .inl (List.mem_singleton.1 h)
theorem chgL_len {α:Type} (q:α→Bool) (f:α→α):∀l:List α,(chgL q f l).length=l.length
 | []=>rfl
 | x::t=>by
   unfold chgL
   split
   · rfl
   · simp [chgL_len q f t]
theorem chgL_mem {α:Type} {q:α→Bool} {f:α→α} {y:α}:∀{l:List α},y∈chgL q f l→y∈l∨∃z∈l,y=f z
 | [],h=>.inl h
 | x::t,h=>by
   unfold chgL at h
   split at h
   · rcases List.mem_cons.1 h with h | h
     · exact .inr ⟨x,List.mem_cons_self ..,h⟩
     · exact .inl (List.mem_cons_of_mem _ h)
   · rcases List.mem_cons.1 h with h | h
     · exact .inl (h ▸ List.mem_cons_self ..)
     · rcases chgL_mem h with h | ⟨z,hz,e⟩
       · exact .inl (List.mem_cons_of_mem _ h)
       · exact .inr ⟨z,List.mem_cons_of_mem _ hz,e⟩
theorem filter_len {α:Type} (q:α→Bool) (l:List α):(l.filter q).length≤l.length:=List.length_filter_le q l
theorem eff_ind {P:St→Prop} (s:St) (r:Rc) (h1:r.kd=1→P (eDeployed s r)) (h2:r.kd=2→P (eBegan s r)) (h3:r.kd=3→P (eEntered s r)) (h4:r.kd=4→P (eLeft s r)) (h6:r.kd=6→P (eJob s r)) (h7:r.kd=7→P (eTaken s r)) (h8:r.kd=8→P (eBack s r)) (h9:r.kd=9→P (eVars s r)) (h10:r.kd=10→P (eTimer s r)) (h11:r.kd=11→P (eSub s r)) (h12:r.kd=12→P (eOpen s r)) (h13:r.kd=13→P (eStuck s r)) (h14:r.kd=14→P (eFreed s r)) (h15:r.kd=15→P (eGone s r)) (h16:r.kd=16→P (eGone s r)) (h17:r.kd=17→P (eKept s r)) (h18:r.kd=18→P (eListed s r)) (h19:r.kd=19→P (ePublished s r)) (h20:r.kd=20→P (eExpired s r)) (h21:r.kd=21→P (eSending s r)) (h22:r.kd=22→P (eMatched s r)) (h23:r.kd=23→P (eMissed s r)) (h0:(∀k∈kinds,¬r.kd=k)→P s):P (eff s r):=by
 unfold f13.eff
 by_cases k1:r.kd=1
 · rw [if_pos k1];exact h1 k1
 by_cases k2:r.kd=2
 · rw [if_neg k1,if_pos k2];exact h2 k2
 by_cases k3:r.kd=3
 · rw [if_neg k1,if_neg k2,if_pos k3];exact h3 k3
 by_cases k4:r.kd=4
 · rw [if_neg k1,if_neg k2,if_neg k3,if_pos k4];exact h4 k4
 by_cases k6:r.kd=6
 · rw [if_neg k1,if_neg k2,if_neg k3,if_neg k4,if_pos k6];exact h6 k6
 by_cases k7:r.kd=7
 · rw [if_neg k1,if_neg k2,if_neg k3,if_neg k4,if_neg k6,if_pos k7];exact h7 k7
 by_cases k8:r.kd=8
 · rw [if_neg k1,if_neg k2,if_neg k3,if_neg k4,if_neg k6,if_neg k7,if_pos k8];exact h8 k8
 by_cases k9:r.kd=9
 · rw [if_neg k1,if_neg k2,if_neg k3,if_neg k4,if_neg k6,if_neg k7,if_neg k8,if_pos k9];exact h9 k9
 by_cases k10:r.kd=10
 · rw [if_neg k1,if_neg k2,if_neg k3,if_neg k4,if_neg k6,if_neg k7,if_neg k8,if_neg k9,if_pos k10];exact h10 k10
 by_cases k11:r.kd=11
 · rw [if_neg k1,if_neg k2,if_neg k3,if_neg k4,if_neg k6,if_neg k7,if_neg k8,if_neg k9,if_neg k10,if_pos k11];exact h11 k11
 by_cases k12:r.kd=12
 · rw [if_neg k1,if_neg k2,if_neg k3,if_neg k4,if_neg k6,if_neg k7,if_neg k8,if_neg k9,if_neg k10,if_neg k11,if_pos k12];exact h12 k12
 by_cases k13:r.kd=13
 · rw [if_neg k1,if_neg k2,if_neg k3,if_neg k4,if_neg k6,if_neg k7,if_neg k8,if_neg k9,if_neg k10,if_neg k11,if_neg k12,if_pos k13];exact h13 k13
 by_cases k14:r.kd=14
 · rw [if_neg k1,if_neg k2,if_neg k3,if_neg k4,if_neg k6,if_neg k7,if_neg k8,if_neg k9,if_neg k10,if_neg k11,if_neg k12,if_neg k13,if_pos k14];exact h14 k14
 by_cases k15:r.kd=15
 · rw [if_neg k1,if_neg k2,if_neg k3,if_neg k4,if_neg k6,if_neg k7,if_neg k8,if_neg k9,if_neg k10,if_neg k11,if_neg k12,if_neg k13,if_neg k14,if_pos k15];exact h15 k15
 by_cases k16:r.kd=16
 · rw [if_neg k1,if_neg k2,if_neg k3,if_neg k4,if_neg k6,if_neg k7,if_neg k8,if_neg k9,if_neg k10,if_neg k11,if_neg k12,if_neg k13,if_neg k14,if_neg k15,if_pos k16];exact h16 k16
 by_cases k17:r.kd=17
 · rw [if_neg k1,if_neg k2,if_neg k3,if_neg k4,if_neg k6,if_neg k7,if_neg k8,if_neg k9,if_neg k10,if_neg k11,if_neg k12,if_neg k13,if_neg k14,if_neg k15,if_neg k16,if_pos k17];exact h17 k17
 by_cases k18:r.kd=18
 · rw [if_neg k1,if_neg k2,if_neg k3,if_neg k4,if_neg k6,if_neg k7,if_neg k8,if_neg k9,if_neg k10,if_neg k11,if_neg k12,if_neg k13,if_neg k14,if_neg k15,if_neg k16,if_neg k17,if_pos k18];exact h18 k18
 by_cases k19:r.kd=19
 · rw [if_neg k1,if_neg k2,if_neg k3,if_neg k4,if_neg k6,if_neg k7,if_neg k8,if_neg k9,if_neg k10,if_neg k11,if_neg k12,if_neg k13,if_neg k14,if_neg k15,if_neg k16,if_neg k17,if_neg k18,if_pos k19];exact h19 k19
 by_cases k20:r.kd=20
 · rw [if_neg k1,if_neg k2,if_neg k3,if_neg k4,if_neg k6,if_neg k7,if_neg k8,if_neg k9,if_neg k10,if_neg k11,if_neg k12,if_neg k13,if_neg k14,if_neg k15,if_neg k16,if_neg k17,if_neg k18,if_neg k19,if_pos k20];exact h20 k20
 by_cases k21:r.kd=21
 · rw [if_neg k1,if_neg k2,if_neg k3,if_neg k4,if_neg k6,if_neg k7,if_neg k8,if_neg k9,if_neg k10,if_neg k11,if_neg k12,if_neg k13,if_neg k14,if_neg k15,if_neg k16,if_neg k17,if_neg k18,if_neg k19,if_neg k20,if_pos k21];exact h21 k21
 by_cases k22:r.kd=22
 · rw [if_neg k1,if_neg k2,if_neg k3,if_neg k4,if_neg k6,if_neg k7,if_neg k8,if_neg k9,if_neg k10,if_neg k11,if_neg k12,if_neg k13,if_neg k14,if_neg k15,if_neg k16,if_neg k17,if_neg k18,if_neg k19,if_neg k20,if_neg k21,if_pos k22];exact h22 k22
 by_cases k23:r.kd=23
 · rw [if_neg k1,if_neg k2,if_neg k3,if_neg k4,if_neg k6,if_neg k7,if_neg k8,if_neg k9,if_neg k10,if_neg k11,if_neg k12,if_neg k13,if_neg k14,if_neg k15,if_neg k16,if_neg k17,if_neg k18,if_neg k19,if_neg k20,if_neg k21,if_neg k22,if_pos k23];exact h23 k23
 rw [if_neg k1,if_neg k2,if_neg k3,if_neg k4,if_neg k6,if_neg k7,if_neg k8,if_neg k9,if_neg k10,if_neg k11,if_neg k12,if_neg k13,if_neg k14,if_neg k15,if_neg k16,if_neg k17,if_neg k18,if_neg k19,if_neg k20,if_neg k21,if_neg k22,if_neg k23];exact h0 (fun k hk=>by simp only [kinds,List.mem_cons,List.not_mem_nil,or_false] at hk;omega)
structure Sn (n:Nat) (s:St):Prop where
 nDe:(s.procs.length+n)*32≤211106232528000
 nIn:(s.insts.length+n)*48≤211106232528000
 nTk:(s.tokens.length+n)*56≤211106232528000
 nJb:(s.jobs.length+n)*64≤211106232528000
 nTm:(s.timers.length+n)*24≤211106232528000
 nSb:(s.subs.length+n)*64≤211106232528000
 nKp:(s.kept.length+n)*24≤211106232528000
 nLs:(s.listed.length+n)*88≤211106232528000
 nMs:(s.msgs.length+n)*112≤211106232528000
 mIn:∀x∈s.insts,x.vars.length*48≤211106232528000
 mLs:∀x∈s.listed,x.vars.length*48≤211106232528000
 mMs:∀x∈s.msgs,x.vars.length*48≤211106232528000
 kMs:∀x∈s.msgs,(x.its.length+n)*8≤211106232528000
theorem Sn.down {n:Nat} {s:St} (h:Sn (n+1) s):Sn n s :=
 ⟨by have:=h.nDe;omega,by have:=h.nIn;omega,by have:=h.nTk;omega,by have:=h.nJb;omega,by have:=h.nTm;omega,by have:=h.nSb;omega,by have:=h.nKp;omega,by have:=h.nLs;omega,by have:=h.nMs;omega,h.mIn,h.mLs,h.mMs,fun x hx=>by have:=h.kMs x hx;omega⟩
theorem Sn.sy {n:Nat} {s:St} (h:Sn (n+1) s):Sy s :=
 ⟨by have:=h.nDe;omega,by have:=h.nIn;omega,by have:=h.nTk;omega,by have:=h.nJb;omega,by have:=h.nTm;omega,by have:=h.nSb;omega,by have:=h.nKp;omega,by have:=h.nLs;omega,by have:=h.nMs;omega,h.mIn,h.mLs,h.mMs,fun x hx=>by have:=h.kMs x hx;omega⟩
theorem Sn.sz {n:Nat} {s:St} (h:Sn n s):Sz s :=
 ⟨by have:=h.nDe;omega,by have:=h.nIn;omega,by have:=h.nTk;omega,by have:=h.nJb;omega,by have:=h.nTm;omega,by have:=h.nSb;omega,by have:=h.nKp;omega,by have:=h.nLs;omega,by have:=h.nMs;omega,h.mIn,h.mLs,h.mMs,fun x hx=>by have:=h.kMs x hx;omega⟩
theorem Sn.at {n p d:Nat} {s:St} (h:Sn n s):Sn n { s with pos:=p,done:=d }:=⟨h.nDe,h.nIn,h.nTk,h.nJb,h.nTm,h.nSb,h.nKp,h.nLs,h.nMs,h.mIn,h.mLs,h.mMs,h.kMs⟩
theorem Sn.wait {n:Nat} {s:St} (h:Sn n s) (q:Nat→Bool):Sn n (eWait s q) :=
 { h with
   nJb:=by have:=h.nJb;have:=filter_len (fun x=>!q x.token) s.jobs;simp only [eWait];omega
   nTm:=by have:=h.nTm;have:=filter_len (fun x=>!q x.token) s.timers;simp only [eWait];omega
   nSb:=by have:=h.nSb;have:=filter_len (fun x=>!q x.token) s.subs;simp only [eWait];omega }
theorem Sn.eff {n:Nat} {s:St} {r:Rc} (h:Sn (n+1) s) (hv:r.v.length*48≤211106232528000):Sn n (eff s r):=by
 have g:=h.down
 refine eff_ind s r (fun _=>?_) (fun _=>?_) (fun _=>?_) (fun _=>?_) (fun _=>?_) (fun _=>?_) (fun _=>?_) (fun _=>?_) (fun _=>?_) (fun _=>?_) (fun _=>?_) (fun _=>?_) (fun _=>?_) (fun _=>?_) (fun _=>?_) (fun _=>?_) (fun _=>?_) (fun _=>?_) (fun _=>?_) (fun _=>?_) (fun _=>?_) (fun _=>?_) (fun _=>?_)
 · exact { g with nDe:=by have:=h.nDe;have:=putL_len De.kk ltT s.procs ⟨r.a,r.b⟩;simp only [eDeployed];omega }
 · exact { g with
     nIn:=by have:=h.nIn;have:=putL_len In.kk ltU s.insts ⟨r.k1,r.a,.slice none 0 0,r.v⟩;simp only [eBegan];omega
     mIn:=fun x hx=>by
       rcases putL_mem hx with rfl | hx
       · exact hv
       · exact h.mIn x hx }
 · exact { g with nTk:=by have:=h.nTk;have:=putL_len Tk.kk ltU s.tokens ⟨r.k1,r.k2,r.k3,r.n,r.m,[]⟩;simp only [eEntered];omega }
 · exact Sn.wait (s:={ s with tokens:=s.tokens.filter fun x=>!(x.kk==r.k1) }) { g with nTk:=by have:=g.nTk;have:=filter_len (fun x:Tk=>!(x.kk==r.k1)) s.tokens;simp only;omega } _
 · exact { g with nJb:=by have:=h.nJb;have:=putL_len Jb.kk ltU s.jobs ⟨r.k1,r.k2,r.a,r.n,[],0⟩;simp only [eJob];omega }
 · exact { g with nJb:=by have:=g.nJb;simp only [eTaken,chgL_len];omega }
 · exact { g with nJb:=by have:=g.nJb;simp only [eBack,chgL_len];omega }
 · exact { g with
     nIn:=by have:=g.nIn;simp only [eVars,chgL_len];omega
     mIn:=fun x hx=>by
       rcases chgL_mem hx with hx | ⟨z,-,rfl⟩
       · exact h.mIn x hx
       · exact hv }
 · exact { g with nTm:=by have:=h.nTm;have:=putL_len Tm.kk ltP s.timers ⟨r.k1,r.n,r.m⟩;simp only [eTimer];omega }
 · exact { g with nSb:=by have:=h.nSb;have:=putL_len Sb.kk ltP s.subs ⟨r.k1,r.k2,r.n,r.a,r.b,false⟩;simp only [eSub];omega }
 · exact { g with nSb:=by have:=g.nSb;simp only [eOpen,chgL_len];omega }
 · exact { g with nTk:=by have:=g.nTk;simp only [eStuck,chgL_len];omega }
 · exact { g with nTk:=by have:=g.nTk;simp only [eFreed,chgL_len];omega }
 · exact Sn.wait (s:={ s with insts:=s.insts.filter (fun x=>!(x.kk==r.k1)),tokens:=s.tokens.filter (fun x=>!(x.inst==r.k1)) }) { g with
     nIn:=by have:=g.nIn;have:=filter_len (fun x:In=>!(x.kk==r.k1)) s.insts;simp only;omega
     nTk:=by have:=g.nTk;have:=filter_len (fun x:Tk=>!(x.inst==r.k1)) s.tokens;simp only;omega
     mIn:=fun x hx=>h.mIn x (List.mem_filter.1 hx).1 } _
 · exact Sn.wait (s:={ s with insts:=s.insts.filter (fun x=>!(x.kk==r.k1)),tokens:=s.tokens.filter (fun x=>!(x.inst==r.k1)) }) { g with
     nIn:=by have:=g.nIn;have:=filter_len (fun x:In=>!(x.kk==r.k1)) s.insts;simp only;omega
     nTk:=by have:=g.nTk;have:=filter_len (fun x:Tk=>!(x.inst==r.k1)) s.tokens;simp only;omega
     mIn:=fun x hx=>h.mIn x (List.mem_filter.1 hx).1 } _
 · exact { g with nKp:=by have:=h.nKp;have:=putL_len Kp.kk ltP s.kept ⟨r.k1,r.k2,r.n⟩;simp only [eKept];omega }
 · exact { g with
     nLs:=by have:=h.nLs;have:=putL_len Ls.kk ltP s.listed ⟨r.k1,r.k2,r.n,r.a,r.b,0,.slice none 0 0,[]⟩;simp only [eListed];omega
     mLs:=fun x hx=>by
       rcases putL_mem hx with rfl | hx
       · exact Nat.zero_le _
       · exact h.mLs x hx }
 · exact { g with
     nMs:=by have:=h.nMs;have:=putL_len Ms.kk ltU s.msgs ⟨r.k1,r.a,r.b,r.c,r.n,.slice none 0 0,.slice none 0 0,r.v,[]⟩;simp only [ePublished];omega
     mMs:=fun x hx=>by
       rcases putL_mem hx with rfl | hx
       · exact hv
       · exact h.mMs x hx
     kMs:=fun x hx=>by
       rcases putL_mem hx with rfl | hx
       · have:=h.nMs;simp only [List.length_nil];omega
       · exact g.kMs x hx }
 · exact { g with
     nMs:=by have:=g.nMs;have:=filter_len (fun x:Ms=>!(x.kk==r.k1)) s.msgs;simp only [eExpired];omega
     mMs:=fun x hx=>h.mMs x (List.mem_filter.1 hx).1
     kMs:=fun x hx=>g.kMs x (List.mem_filter.1 hx).1 }
 · unfold eSending
   split
   · rename_i l m hl hm
     exact { g with
       nLs:=by have:=g.nLs;simp only [sendL,chgL_len];omega
       nMs:=by have:=g.nMs;simp only [sendL,chgL_len];omega
       mLs:=fun x hx=>by
         rcases chgL_mem hx with hx | ⟨z,-,rfl⟩
         · exact h.mLs x hx
         · exact h.mMs m (List.mem_of_find?_eq_some hm)
       mMs:=fun x hx=>by
         rcases chgL_mem hx with hx | ⟨z,hz,rfl⟩
         · exact h.mMs x hx
         · exact h.mMs z hz
       kMs:=fun x hx=>by
         rcases chgL_mem hx with hx | ⟨z,hz,rfl⟩
         · exact g.kMs x hx
         · have:=h.kMs z hz;simp only [List.length_append,List.length_cons,List.length_nil];omega }
   · exact g
 · exact { g with
     nLs:=by have:=g.nLs;have:=filter_len (fun x:Ls=>!(x.kk==(r.k1,r.n))) s.listed;simp only [eMatched];omega
     mLs:=fun x hx=>h.mLs x (List.mem_filter.1 hx).1 }
 · unfold eMissed
   split
   · rename_i l hl
     exact { g with
       nLs:=by have:=g.nLs;have:=filter_len (fun x:Ls=>!(x.kk==(r.k1,r.n))) s.listed;simp only [missL];omega
       nMs:=by have:=g.nMs;simp only [missL,chgL_len];omega
       mLs:=fun x hx=>h.mLs x (List.mem_filter.1 hx).1
       mMs:=fun x hx=>by
         rcases chgL_mem hx with hx | ⟨z,hz,rfl⟩
         · exact h.mMs x hx
         · exact h.mMs z hz
       kMs:=fun x hx=>by
         rcases chgL_mem hx with hx | ⟨z,hz,rfl⟩
         · exact g.kMs x hx
         · have:=g.kMs z hz;have:=filter_len (fun y=>!(y==l.inst)) z.its;simp only;omega }
   · exact g
 · exact g
theorem Sn.apl {n ps:Nat} {s:St} {r:Rc} (h:Sn (n+1) s) (hv:r.v.length*48≤211106232528000):Sn n (apl s ps r):=by
 unfold f13.apl
 split
 · exact Sn.eff h.at hv
 · split
   · exact h.down.at
   · exact Sn.at (d:=s.done) h.down
theorem Kr.at {p d:Nat} {s:St} (h:Kr s):Kr { s with pos:=p,done:=d }:=⟨h.kTk,h.kJb,h.kTm,h.kSb⟩
theorem Kr.wait {s:St} (h:Kr s) (q:Nat→Bool):Kr (eWait s q) :=
 ⟨h.kTk,fun x hx=>h.kJb x (List.mem_filter.1 hx).1,fun x hx=>h.kTm x (List.mem_filter.1 hx).1,fun x hx=>h.kSb x (List.mem_filter.1 hx).1⟩
theorem Kr.eff {s:St} {r:Rc} (h:Kr s) (ho:r.ok):Kr (eff s r):=by
 obtain ⟨-,k1,k2⟩:=ho
 refine eff_ind s r (fun _=>?_) (fun _=>?_) (fun _=>?_) (fun _=>?_) (fun _=>?_) (fun _=>?_) (fun _=>?_) (fun _=>?_) (fun _=>?_) (fun _=>?_) (fun _=>?_) (fun _=>?_) (fun _=>?_) (fun _=>?_) (fun _=>?_) (fun _=>?_) (fun _=>?_) (fun _=>?_) (fun _=>?_) (fun _=>?_) (fun _=>?_) (fun _=>?_) (fun _=>?_)
 · exact ⟨h.kTk,h.kJb,h.kTm,h.kSb⟩
 · exact ⟨h.kTk,h.kJb,h.kTm,h.kSb⟩
 · exact ⟨fun x hx=>by rcases putL_mem hx with rfl | hx;exact k1;exact h.kTk x hx,h.kJb,h.kTm,h.kSb⟩
 · exact Kr.wait (s:={ s with tokens:=s.tokens.filter fun x=>!(x.kk==r.k1) }) ⟨fun x hx=>h.kTk x (List.mem_filter.1 hx).1,h.kJb,h.kTm,h.kSb⟩ _
 · exact ⟨h.kTk,fun x hx=>by rcases putL_mem hx with rfl | hx;exact k2;exact h.kJb x hx,h.kTm,h.kSb⟩
 · exact ⟨h.kTk,fun x hx=>by rcases chgL_mem hx with hx | ⟨z,hz,rfl⟩;exact h.kJb x hx;exact h.kJb z hz,h.kTm,h.kSb⟩
 · exact ⟨h.kTk,fun x hx=>by rcases chgL_mem hx with hx | ⟨z,hz,rfl⟩;exact h.kJb x hx;exact h.kJb z hz,h.kTm,h.kSb⟩
 · exact ⟨h.kTk,h.kJb,h.kTm,h.kSb⟩
 · exact ⟨h.kTk,h.kJb,fun x hx=>by rcases putL_mem hx with rfl | hx;exact k1;exact h.kTm x hx,h.kSb⟩
 · exact ⟨h.kTk,h.kJb,h.kTm,fun x hx=>by rcases putL_mem hx with rfl | hx;exact k1;exact h.kSb x hx⟩
 · exact ⟨h.kTk,h.kJb,h.kTm,fun x hx=>by rcases chgL_mem hx with hx | ⟨z,hz,rfl⟩;exact h.kSb x hx;exact h.kSb z hz⟩
 · exact ⟨fun x hx=>by rcases chgL_mem hx with hx | ⟨z,hz,rfl⟩;exact h.kTk x hx;exact h.kTk z hz,h.kJb,h.kTm,h.kSb⟩
 · exact ⟨fun x hx=>by rcases chgL_mem hx with hx | ⟨z,hz,rfl⟩;exact h.kTk x hx;exact h.kTk z hz,h.kJb,h.kTm,h.kSb⟩
 · exact Kr.wait (s:={ s with insts:=s.insts.filter (fun x=>!(x.kk==r.k1)),tokens:=s.tokens.filter (fun x=>!(x.inst==r.k1)) }) ⟨fun x hx=>h.kTk x (List.mem_filter.1 hx).1,h.kJb,h.kTm,h.kSb⟩ _
 · exact Kr.wait (s:={ s with insts:=s.insts.filter (fun x=>!(x.kk==r.k1)),tokens:=s.tokens.filter (fun x=>!(x.inst==r.k1)) }) ⟨fun x hx=>h.kTk x (List.mem_filter.1 hx).1,h.kJb,h.kTm,h.kSb⟩ _
 · exact ⟨h.kTk,h.kJb,h.kTm,h.kSb⟩
 · exact ⟨h.kTk,h.kJb,h.kTm,h.kSb⟩
 · exact ⟨h.kTk,h.kJb,h.kTm,h.kSb⟩
 · exact ⟨h.kTk,h.kJb,h.kTm,h.kSb⟩
 · unfold eSending
   split
   · exact ⟨h.kTk,h.kJb,h.kTm,h.kSb⟩
   · exact h
 · exact ⟨h.kTk,h.kJb,h.kTm,h.kSb⟩
 · unfold eMissed
   split
   · exact ⟨h.kTk,h.kJb,h.kTm,h.kSb⟩
   · exact h
 · exact h
theorem Kr.apl {ps:Nat} {s:St} {r:Rc} (h:Kr s) (ho:r.ok):Kr (apl s ps r):=by
 unfold f13.apl
 split
 · exact Kr.eff h.at ho
 · split
   · exact h.at
   · exact Kr.at (d:=s.done) h

def fl (a:St) (off:Nat) (l:List Rc):Nat→St
 | 0=>a
 | i+1=>match l[i]? with
   | some r=>apl (fl a off l i) (i+off) r
   | none=>fl a off l i
theorem fl_step {a:St} {off:Nat} {l:List Rc} {i:Nat} (hi:i<l.length):fl a off l (i+1)=apl (fl a off l i) (i+off) l[i]:=by
 conv=>lhs;unfold fl
 rw [List.getElem?_eq_getElem hi]
theorem fl_sn {a:St} {off:Nat} {l:List Rc} (h:Sn l.length a) (hv:∀x∈l,x.v.length*48≤211106232528000):∀i,i≤l.length→Sn (l.length-i) (fl a off l i)
 | 0,_=>h
 | i+1,hi=>by
   rw [fl_step (by omega)]
   have:=fl_sn (off:=off) h hv i (by omega)
   rw [show l.length-i=l.length-(i+1)+1 by omega] at this
   exact this.apl (hv _ (List.getElem_mem _))
theorem fl_kr {a:St} {off:Nat} {l:List Rc} (h:Kr a) (ho:∀x∈l,x.ok):∀i,i≤l.length→Kr (fl a off l i)
 | 0,_=>h
 | i+1,hi=>by
   rw [fl_step (by omega)]
   exact (fl_kr (off:=off) h ho i (by omega)).apl (ho _ (List.getElem_mem _))
def Bc (w:World) (sb:Nat) (t:St):Prop:=w.heap[sb]?=some (.cells t.c.toArray 33 (0,0))
theorem Bc.cells {w:World} {sb:Nat} {t:St} (h:Bc w sb t):(∀(j:Nat) (u:Value),t.c[j]?=some u→w.cell? ⟨sb,j,none⟩=some u)∧∀j:Nat,w.frozen? ⟨sb,j,none⟩=false:=by
 unfold Bc at h
 exact ⟨fun j u hj=>by simp [World.cell?,h,hj],fun j=>by simp [World.frozen?,h]⟩
theorem Bc.lt {w:World} {sb:Nat} {t:St} (h:Bc w sb t):sb<w.heap.size:=(Array.getElem?_eq_some_iff.1 h).1
theorem Bc.up {w w':World} {sb:Nat} {t:St} (h:Bc w sb t) (hb:Below w.heap.size w w'):Bc w' sb t:=(hb.block _ h.lt).trans h
theorem Bc.lay {w w2:World} {sb:Nat} {t t2:St} (h:Bc w sb t) (ho:Own w.heap.size w2 t2.rows) (hb:Below w.heap.size w w2):Bc (set12 w2 sb (.int .u64 (t2.pos:Int)) (.int .u64 (t2.done:Int)) (.int .u64 (t2.made:Int)) t2.vDe t2.vIn t2.vTk t2.vJb t2.vTm t2.vSb t2.vKp t2.vLs t2.vMs) sb t2∧Sv (set12 w2 sb (.int .u64 (t2.pos:Int)) (.int .u64 (t2.done:Int)) (.int .u64 (t2.made:Int)) t2.vDe t2.vIn t2.vTk t2.vJb t2.vTm t2.vSb t2.vKp t2.vLs t2.vMs) t2∧Ch (fun g=>g=sb) w (set12 w2 sb (.int .u64 (t2.pos:Int)) (.int .u64 (t2.done:Int)) (.int .u64 (t2.made:Int)) t2.vDe t2.vIn t2.vTk t2.vJb t2.vTm t2.vSb t2.vKp t2.vLs t2.vMs):=by
 have h2:=h.up hb
 refine ⟨?_,Own.sv (Own.of12 ho h.lt),(Ch.of_below hb).trans (set12_ch w2 sb _ _ _ _ _ _ _ _ _ _ _ _)⟩
 unfold Bc at h2 ⊢
 exact set12_obj _ _ _ _ _ _ _ _ _ _ _ _ h2
theorem St.cut {w:World} {s:St} (h:Sv w s):(∃a n c,s.vDe=.slice a n c)∧(∃a n c,s.vIn=.slice a n c)∧(∃a n c,s.vTk=.slice a n c)∧(∃a n c,s.vJb=.slice a n c)∧(∃a n c,s.vTm=.slice a n c)∧(∃a n c,s.vSb=.slice a n c)∧(∃a n c,s.vKp=.slice a n c)∧(∃a n c,s.vLs=.slice a n c)∧(∃a n c,s.vMs=.slice a n c):=by
 refine ⟨?_,?_,?_,?_,?_,?_,?_,?_,?_⟩
 · obtain ⟨a,c,e,-⟩:=h.rDe;exact ⟨a,_,c,e⟩
 · obtain ⟨a,c,e,-⟩:=h.rIn;exact ⟨a,_,c,e⟩
 · obtain ⟨a,c,e,-⟩:=h.rTk;exact ⟨a,_,c,e⟩
 · obtain ⟨a,c,e,-⟩:=h.rJb;exact ⟨a,_,c,e⟩
 · obtain ⟨a,c,e,-⟩:=h.rTm;exact ⟨a,_,c,e⟩
 · obtain ⟨a,c,e,-⟩:=h.rSb;exact ⟨a,_,c,e⟩
 · obtain ⟨a,c,e,-⟩:=h.rKp;exact ⟨a,_,c,e⟩
 · obtain ⟨a,c,e,-⟩:=h.rLs;exact ⟨a,_,c,e⟩
 · obtain ⟨a,c,e,-⟩:=h.rMs;exact ⟨a,_,c,e⟩

structure Lp (w W1:World) (sb:Nat) (v:Value) (l:List Rc) (a:St) (off i:Nat) (wr:World) (t:St):Prop where
 box:Bc wr sb t
 sv:Sv wr t
 is:t.e=fl a off l i
 ch:Ch (fun g=>g=sb) W1 wr
 bel:Below w.heap.size w wr
theorem Lp.call {w W1 wr:World} {sb off i:Nat} {v:Value} {l:List Rc} {a t:St} (h:Lp w W1 sb v l a off i wr t) (hi:i<l.length) (hn:Sn l.length a) (hk:Kr a) (hr:∀x∈l,Rr 4 Vr.c w x.vv x.v∧x.ok) (hv:∀x∈l,x.v.length*48≤211106232528000) (W:World) (hW:Below wr.heap.size wr W):Calls Tryz.prog 5 #[.agg t.c.toArray,.int .u64 ((i+off:Nat):Int),.agg l[i].cs.toArray] W (Apd W (fl a off l (i+1))):=by
 have h1:=fl_sn (off:=off) hn hv i (by omega)
 rw [show l.length-i=l.length-(i+1)+1 by omega] at h1
 have h2:=fl_kr (off:=off) hk (fun x hx=>(hr x hx).2) i (by omega)
 rw [← h.is] at h1 h2
 have hm:=List.getElem_mem hi
 have:=Apply_any (ps:=i+off) (r:=l[i]) (h.sv.up hW) h1.sy.of_e h2.of_e (((hr _ hm).1.up h.bel).up (bel_of brf hW nlr)) (hv _ hm) (hr _ hm).2
 rw [h.is,← fl_step hi] at this
 exact this
theorem Lp.next {w W1 wr w2:World} {sb off i:Nat} {v:Value} {l:List Rc} {a t t2:St} (h:Lp w W1 sb v l a off i wr t) (hsb:w.heap.size≤sb) (ho:Own wr.heap.size w2 t2.rows) (he:t2.e=fl a off l (i+1)) (hb:Below wr.heap.size wr w2):Lp w W1 sb v l a off (i+1) (set12 w2 sb (.int .u64 (t2.pos:Int)) (.int .u64 (t2.done:Int)) (.int .u64 (t2.made:Int)) t2.vDe t2.vIn t2.vTk t2.vJb t2.vTm t2.vSb t2.vKp t2.vLs t2.vMs) t2:=by
 obtain ⟨h1,h2,h3⟩:=h.box.lay ho hb
 exact ⟨h1,h2,he,h.ch.trans h3,h.bel.trans (h3.below h.bel.size (fun g hg e=>by omega))⟩
theorem rc_cells {w:World} {v:Value} {l:List Rc} (h:Rr 13 Rc.cs w v l) {i:Nat} (hi:i<l.length):∃b off cap,v=.slice (some ⟨b,off,none⟩) l.length cap∧b<w.heap.size∧∀W,Below w.heap.size w W→W.cell? ⟨b,off+i*13+0,none⟩=some (.int .i64 l[i].cl)∧W.cell? ⟨b,off+i*13+1,none⟩=some (.int .i64 l[i].kd)∧W.cell? ⟨b,off+i*13+2,none⟩=some (.int .u64 (l[i].fr:Int))∧W.cell? ⟨b,off+i*13+3,none⟩=some (.int .i64 l[i].tm)∧W.cell? ⟨b,off+i*13+4,none⟩=some (.int .u64 (l[i].k1:Int))∧W.cell? ⟨b,off+i*13+5,none⟩=some (.int .u64 (l[i].k2:Int))∧W.cell? ⟨b,off+i*13+6,none⟩=some (.int .u64 (l[i].k3:Int))∧W.cell? ⟨b,off+i*13+7,none⟩=some (.int .i64 l[i].n)∧W.cell? ⟨b,off+i*13+8,none⟩=some (.int .i64 l[i].m)∧W.cell? ⟨b,off+i*13+9,none⟩=some (.string (S l[i].a))∧W.cell? ⟨b,off+i*13+10,none⟩=some (.string (S l[i].b))∧W.cell? ⟨b,off+i*13+11,none⟩=some (.string (S l[i].c))∧W.cell? ⟨b,off+i*13+12,none⟩=some (l[i].vv):=by
 obtain ⟨b,off,cap,hv,-,hb,hc⟩:=h.at hi
 exact ⟨b,off,cap,hv,hb,fun W hW=>⟨hc W hW i hi 0 _ rfl,hc W hW i hi 1 _ rfl,hc W hW i hi 2 _ rfl,hc W hW i hi 3 _ rfl,hc W hW i hi 4 _ rfl,hc W hW i hi 5 _ rfl,hc W hW i hi 6 _ rfl,hc W hW i hi 7 _ rfl,hc W hW i hi 8 _ rfl,hc W hW i hi 9 _ rfl,hc W hW i hi 10 _ rfl,hc W hW i hi 11 _ rfl,hc W hW i hi 12 _ rfl⟩⟩

theorem eqDe_yes {w : World} {v u : Value} {l : List De} (hv : Rr 2 De.c w v l) (hu : Rr 2 De.c w u l) (hn : l.length ≤ 4611686018427387904) :
   Calls Tryz.prog 25 #[v,u] w fun e w'=>e=.returned (.bool true)∧∃m,w'=w.drewN m:=by
 have HV:Hid (Rr 2 De.c w v l):=hv
 have HU:Hid (Rr 2 De.c w u l):=hu
 obtain ⟨a,cap,rfl,-⟩:=hv
 obtain ⟨a2,cap2,rfl,-⟩:=hu
 go_enter Tryz.func25,Tryz.ntmps25
 go_wp2
 go_loopw [13] (fun v5 wr=>∃i:Nat,v5=.int .i64 (i:Int)∧i≤l.length∧Hid (∃m,wr=w.drewN m)) (fun v5 _=>l.length-(intOf v5).toNat)
 case atStart=>exact ⟨0,rfl,Nat.zero_le _,⟨0,rfl⟩⟩
 case round =>
   obtain ⟨i,rfl,hi,HW⟩:=hrel
   by_cases hil:i<l.length
   · have hil':(i:Int)<(l.length:Int):=by omega
     have hi0:(0:Int)≤(i:Int):=by omega
     obtain ⟨b',off,cap',hsl,-,hbl,hcell⟩:=HV.out.at hil
     cases hsl
     obtain ⟨b2,off2,cap2',hsl2,-,hbl2,hcell2⟩:=HU.out.at hil
     cases hsl2
     have m0:=hcell wr (dN HW.out) i hil 0 _ rfl
     have n0:=hcell2 wr (dN HW.out) i hil 0 _ rfl
     have m1:=hcell wr (dN HW.out) i hil 1 _ rfl
     have n1:=hcell2 wr (dN HW.out) i hil 1 _ rfl
     simp only [Nat.add_zero] at m0 n0
     clear hcell hcell2
     obtain ⟨x,hx⟩:∃x,l[i]=x:=⟨_,rfl⟩
     rw [hx] at m0 n0 m1 n1
     clear hx
     obtain ⟨x0,x1⟩:=x
     simp only at m0 n0 m1 n1
     go_wp2
     go_quiet (fail)
     go_wp2
     go_roundw
     case rel=>exact ⟨i+1,by simp,by omega,dM HW.out _⟩
     case measure=>simp [intOf];omega
   · have hil':¬(i:Int)<(l.length:Int):=by omega
     go_wp2
     go_ret
     exact ⟨rfl,HW.out⟩

theorem eqTk_yes {w : World} {v u : Value} {l : List Tk} (hv : Rr 6 Tk.c w v l) (hu : Rr 6 Tk.c w u l) (hn : l.length ≤ 4611686018427387904) :
   Calls Tryz.prog 28 #[v,u] w fun e w'=>e=.returned (.bool true)∧∃m,w'=w.drewN m:=by
 have HV:Hid (Rr 6 Tk.c w v l):=hv
 have HU:Hid (Rr 6 Tk.c w u l):=hu
 obtain ⟨a,cap,rfl,-⟩:=hv
 obtain ⟨a2,cap2,rfl,-⟩:=hu
 go_enter Tryz.func28,Tryz.ntmps28
 go_wp2
 go_loopw [13] (fun v5 wr=>∃i:Nat,v5=.int .i64 (i:Int)∧i≤l.length∧Hid (∃m,wr=w.drewN m)) (fun v5 _=>l.length-(intOf v5).toNat)
 case atStart=>exact ⟨0,rfl,Nat.zero_le _,⟨0,rfl⟩⟩
 case round =>
   obtain ⟨i,rfl,hi,HW⟩:=hrel
   by_cases hil:i<l.length
   · have hil':(i:Int)<(l.length:Int):=by omega
     have hi0:(0:Int)≤(i:Int):=by omega
     obtain ⟨b',off,cap',hsl,-,hbl,hcell⟩:=HV.out.at hil
     cases hsl
     obtain ⟨b2,off2,cap2',hsl2,-,hbl2,hcell2⟩:=HU.out.at hil
     cases hsl2
     have m0:=hcell wr (dN HW.out) i hil 0 _ rfl
     have n0:=hcell2 wr (dN HW.out) i hil 0 _ rfl
     have m1:=hcell wr (dN HW.out) i hil 1 _ rfl
     have n1:=hcell2 wr (dN HW.out) i hil 1 _ rfl
     have m2:=hcell wr (dN HW.out) i hil 2 _ rfl
     have n2:=hcell2 wr (dN HW.out) i hil 2 _ rfl
     have m3:=hcell wr (dN HW.out) i hil 3 _ rfl
     have n3:=hcell2 wr (dN HW.out) i hil 3 _ rfl
     have m4:=hcell wr (dN HW.out) i hil 4 _ rfl
     have n4:=hcell2 wr (dN HW.out) i hil 4 _ rfl
     have m5:=hcell wr (dN HW.out) i hil 5 _ rfl
     have n5:=hcell2 wr (dN HW.out) i hil 5 _ rfl
     simp only [Nat.add_zero] at m0 n0
     clear hcell hcell2
     obtain ⟨x,hx⟩:∃x,l[i]=x:=⟨_,rfl⟩
     rw [hx] at m0 n0 m1 n1 m2 n2 m3 n3 m4 n4 m5 n5
     clear hx
     obtain ⟨x0,x1,x2,x3,x4,x5⟩:=x
     simp only at m0 n0 m1 n1 m2 n2 m3 n3 m4 n4 m5 n5
     go_wp2
     go_quiet (fail)
     go_wp2
     go_roundw
     case rel=>exact ⟨i+1,by simp,by omega,dM HW.out _⟩
     case measure=>simp [intOf];omega
   · have hil':¬(i:Int)<(l.length:Int):=by omega
     go_wp2
     go_ret
     exact ⟨rfl,HW.out⟩

theorem eqJb_yes {w : World} {v u : Value} {l : List Jb} (hv : Rr 6 Jb.c w v l) (hu : Rr 6 Jb.c w u l) (hn : l.length ≤ 4611686018427387904) :
   Calls Tryz.prog 29 #[v,u] w fun e w'=>e=.returned (.bool true)∧∃m,w'=w.drewN m:=by
 have HV:Hid (Rr 6 Jb.c w v l):=hv
 have HU:Hid (Rr 6 Jb.c w u l):=hu
 obtain ⟨a,cap,rfl,-⟩:=hv
 obtain ⟨a2,cap2,rfl,-⟩:=hu
 go_enter Tryz.func29,Tryz.ntmps29
 go_wp2
 go_loopw [13] (fun v5 wr=>∃i:Nat,v5=.int .i64 (i:Int)∧i≤l.length∧Hid (∃m,wr=w.drewN m)) (fun v5 _=>l.length-(intOf v5).toNat)
 case atStart=>exact ⟨0,rfl,Nat.zero_le _,⟨0,rfl⟩⟩
 case round =>
   obtain ⟨i,rfl,hi,HW⟩:=hrel
   by_cases hil:i<l.length
   · have hil':(i:Int)<(l.length:Int):=by omega
     have hi0:(0:Int)≤(i:Int):=by omega
     obtain ⟨b',off,cap',hsl,-,hbl,hcell⟩:=HV.out.at hil
     cases hsl
     obtain ⟨b2,off2,cap2',hsl2,-,hbl2,hcell2⟩:=HU.out.at hil
     cases hsl2
     have m0:=hcell wr (dN HW.out) i hil 0 _ rfl
     have n0:=hcell2 wr (dN HW.out) i hil 0 _ rfl
     have m1:=hcell wr (dN HW.out) i hil 1 _ rfl
     have n1:=hcell2 wr (dN HW.out) i hil 1 _ rfl
     have m2:=hcell wr (dN HW.out) i hil 2 _ rfl
     have n2:=hcell2 wr (dN HW.out) i hil 2 _ rfl
     have m3:=hcell wr (dN HW.out) i hil 3 _ rfl
     have n3:=hcell2 wr (dN HW.out) i hil 3 _ rfl
     have m4:=hcell wr (dN HW.out) i hil 4 _ rfl
     have n4:=hcell2 wr (dN HW.out) i hil 4 _ rfl
     have m5:=hcell wr (dN HW.out) i hil 5 _ rfl
     have n5:=hcell2 wr (dN HW.out) i hil 5 _ rfl
     simp only [Nat.add_zero] at m0 n0
     clear hcell hcell2
     obtain ⟨x,hx⟩:∃x,l[i]=x:=⟨_,rfl⟩
     rw [hx] at m0 n0 m1 n1 m2 n2 m3 n3 m4 n4 m5 n5
     clear hx
     obtain ⟨x0,x1,x2,x3,x4,x5⟩:=x
     simp only at m0 n0 m1 n1 m2 n2 m3 n3 m4 n4 m5 n5
     go_wp2
     go_quiet (fail)
     go_wp2
     go_roundw
     case rel=>exact ⟨i+1,by simp,by omega,dM HW.out _⟩
     case measure=>simp [intOf];omega
   · have hil':¬(i:Int)<(l.length:Int):=by omega
     go_wp2
     go_ret
     exact ⟨rfl,HW.out⟩

theorem eqTm_yes {w : World} {v u : Value} {l : List Tm} (hv : Rr 3 Tm.c w v l) (hu : Rr 3 Tm.c w u l) (hn : l.length ≤ 4611686018427387904) :
   Calls Tryz.prog 30 #[v,u] w fun e w'=>e=.returned (.bool true)∧∃m,w'=w.drewN m:=by
 have HV:Hid (Rr 3 Tm.c w v l):=hv
 have HU:Hid (Rr 3 Tm.c w u l):=hu
 obtain ⟨a,cap,rfl,-⟩:=hv
 obtain ⟨a2,cap2,rfl,-⟩:=hu
 go_enter Tryz.func30,Tryz.ntmps30
 go_wp2
 go_loopw [13] (fun v5 wr=>∃i:Nat,v5=.int .i64 (i:Int)∧i≤l.length∧Hid (∃m,wr=w.drewN m)) (fun v5 _=>l.length-(intOf v5).toNat)
 case atStart=>exact ⟨0,rfl,Nat.zero_le _,⟨0,rfl⟩⟩
 case round =>
   obtain ⟨i,rfl,hi,HW⟩:=hrel
   by_cases hil:i<l.length
   · have hil':(i:Int)<(l.length:Int):=by omega
     have hi0:(0:Int)≤(i:Int):=by omega
     obtain ⟨b',off,cap',hsl,-,hbl,hcell⟩:=HV.out.at hil
     cases hsl
     obtain ⟨b2,off2,cap2',hsl2,-,hbl2,hcell2⟩:=HU.out.at hil
     cases hsl2
     have m0:=hcell wr (dN HW.out) i hil 0 _ rfl
     have n0:=hcell2 wr (dN HW.out) i hil 0 _ rfl
     have m1:=hcell wr (dN HW.out) i hil 1 _ rfl
     have n1:=hcell2 wr (dN HW.out) i hil 1 _ rfl
     have m2:=hcell wr (dN HW.out) i hil 2 _ rfl
     have n2:=hcell2 wr (dN HW.out) i hil 2 _ rfl
     simp only [Nat.add_zero] at m0 n0
     clear hcell hcell2
     obtain ⟨x,hx⟩:∃x,l[i]=x:=⟨_,rfl⟩
     rw [hx] at m0 n0 m1 n1 m2 n2
     clear hx
     obtain ⟨x0,x1,x2⟩:=x
     simp only at m0 n0 m1 n1 m2 n2
     go_wp2
     go_quiet (fail)
     go_wp2
     go_roundw
     case rel=>exact ⟨i+1,by simp,by omega,dM HW.out _⟩
     case measure=>simp [intOf];omega
   · have hil':¬(i:Int)<(l.length:Int):=by omega
     go_wp2
     go_ret
     exact ⟨rfl,HW.out⟩

theorem eqSb_yes {w : World} {v u : Value} {l : List Sb} (hv : Rr 6 Sb.c w v l) (hu : Rr 6 Sb.c w u l) (hn : l.length ≤ 4611686018427387904) :
   Calls Tryz.prog 31 #[v,u] w fun e w'=>e=.returned (.bool true)∧∃m,w'=w.drewN m:=by
 have HV:Hid (Rr 6 Sb.c w v l):=hv
 have HU:Hid (Rr 6 Sb.c w u l):=hu
 obtain ⟨a,cap,rfl,-⟩:=hv
 obtain ⟨a2,cap2,rfl,-⟩:=hu
 go_enter Tryz.func31,Tryz.ntmps31
 go_wp2
 go_loopw [13] (fun v5 wr=>∃i:Nat,v5=.int .i64 (i:Int)∧i≤l.length∧Hid (∃m,wr=w.drewN m)) (fun v5 _=>l.length-(intOf v5).toNat)
 case atStart=>exact ⟨0,rfl,Nat.zero_le _,⟨0,rfl⟩⟩
 case round =>
   obtain ⟨i,rfl,hi,HW⟩:=hrel
   by_cases hil:i<l.length
   · have hil':(i:Int)<(l.length:Int):=by omega
     have hi0:(0:Int)≤(i:Int):=by omega
     obtain ⟨b',off,cap',hsl,-,hbl,hcell⟩:=HV.out.at hil
     cases hsl
     obtain ⟨b2,off2,cap2',hsl2,-,hbl2,hcell2⟩:=HU.out.at hil
     cases hsl2
     have m0:=hcell wr (dN HW.out) i hil 0 _ rfl
     have n0:=hcell2 wr (dN HW.out) i hil 0 _ rfl
     have m1:=hcell wr (dN HW.out) i hil 1 _ rfl
     have n1:=hcell2 wr (dN HW.out) i hil 1 _ rfl
     have m2:=hcell wr (dN HW.out) i hil 2 _ rfl
     have n2:=hcell2 wr (dN HW.out) i hil 2 _ rfl
     have m3:=hcell wr (dN HW.out) i hil 3 _ rfl
     have n3:=hcell2 wr (dN HW.out) i hil 3 _ rfl
     have m4:=hcell wr (dN HW.out) i hil 4 _ rfl
     have n4:=hcell2 wr (dN HW.out) i hil 4 _ rfl
     have m5:=hcell wr (dN HW.out) i hil 5 _ rfl
     have n5:=hcell2 wr (dN HW.out) i hil 5 _ rfl
     simp only [Nat.add_zero] at m0 n0
     clear hcell hcell2
     obtain ⟨x,hx⟩:∃x,l[i]=x:=⟨_,rfl⟩
     rw [hx] at m0 n0 m1 n1 m2 n2 m3 n3 m4 n4 m5 n5
     clear hx
     obtain ⟨x0,x1,x2,x3,x4,x5⟩:=x
     simp only at m0 n0 m1 n1 m2 n2 m3 n3 m4 n4 m5 n5
     go_wp2
     go_quiet (fail)
     go_wp2
     go_roundw
     case rel=>exact ⟨i+1,by simp,by omega,dM HW.out _⟩
     case measure=>simp [intOf];omega
   · have hil':¬(i:Int)<(l.length:Int):=by omega
     go_wp2
     go_ret
     exact ⟨rfl,HW.out⟩

theorem eqKp_yes {w : World} {v u : Value} {l : List Kp} (hv : Rr 3 Kp.c w v l) (hu : Rr 3 Kp.c w u l) (hn : l.length ≤ 4611686018427387904) :
   Calls Tryz.prog 32 #[v,u] w fun e w'=>e=.returned (.bool true)∧∃m,w'=w.drewN m:=by
 have HV:Hid (Rr 3 Kp.c w v l):=hv
 have HU:Hid (Rr 3 Kp.c w u l):=hu
 obtain ⟨a,cap,rfl,-⟩:=hv
 obtain ⟨a2,cap2,rfl,-⟩:=hu
 go_enter Tryz.func32,Tryz.ntmps32
 go_wp2
 go_loopw [13] (fun v5 wr=>∃i:Nat,v5=.int .i64 (i:Int)∧i≤l.length∧Hid (∃m,wr=w.drewN m)) (fun v5 _=>l.length-(intOf v5).toNat)
 case atStart=>exact ⟨0,rfl,Nat.zero_le _,⟨0,rfl⟩⟩
 case round =>
   obtain ⟨i,rfl,hi,HW⟩:=hrel
   by_cases hil:i<l.length
   · have hil':(i:Int)<(l.length:Int):=by omega
     have hi0:(0:Int)≤(i:Int):=by omega
     obtain ⟨b',off,cap',hsl,-,hbl,hcell⟩:=HV.out.at hil
     cases hsl
     obtain ⟨b2,off2,cap2',hsl2,-,hbl2,hcell2⟩:=HU.out.at hil
     cases hsl2
     have m0:=hcell wr (dN HW.out) i hil 0 _ rfl
     have n0:=hcell2 wr (dN HW.out) i hil 0 _ rfl
     have m1:=hcell wr (dN HW.out) i hil 1 _ rfl
     have n1:=hcell2 wr (dN HW.out) i hil 1 _ rfl
     have m2:=hcell wr (dN HW.out) i hil 2 _ rfl
     have n2:=hcell2 wr (dN HW.out) i hil 2 _ rfl
     simp only [Nat.add_zero] at m0 n0
     clear hcell hcell2
     obtain ⟨x,hx⟩:∃x,l[i]=x:=⟨_,rfl⟩
     rw [hx] at m0 n0 m1 n1 m2 n2
     clear hx
     obtain ⟨x0,x1,x2⟩:=x
     simp only at m0 n0 m1 n1 m2 n2
     go_wp2
     go_quiet (fail)
     go_wp2
     go_roundw
     case rel=>exact ⟨i+1,by simp,by omega,dM HW.out _⟩
     case measure=>simp [intOf];omega
   · have hil':¬(i:Int)<(l.length:Int):=by omega
     go_wp2
     go_ret
     exact ⟨rfl,HW.out⟩

theorem eqVr_yes {w : World} {v u : Value} {l : List Vr} (hv : Rr 4 Vr.c w v l) (hu : Rr 4 Vr.c w u l) (hn : l.length ≤ 4611686018427387904) :
   Calls Tryz.prog 65 #[v,u] w fun e w'=>e=.returned (.bool true)∧∃m,w'=w.drewN m:=by
 have HV:Hid (Rr 4 Vr.c w v l):=hv
 have HU:Hid (Rr 4 Vr.c w u l):=hu
 obtain ⟨a,cap,rfl,-⟩:=hv
 obtain ⟨a2,cap2,rfl,-⟩:=hu
 go_enter Tryz.func65,Tryz.ntmps65
 go_wp2
 go_loopw [13] (fun v5 wr=>∃i:Nat,v5=.int .i64 (i:Int)∧i≤l.length∧Hid (∃m,wr=w.drewN m)) (fun v5 _=>l.length-(intOf v5).toNat)
 case atStart=>exact ⟨0,rfl,Nat.zero_le _,⟨0,rfl⟩⟩
 case round =>
   obtain ⟨i,rfl,hi,HW⟩:=hrel
   by_cases hil:i<l.length
   · have hil':(i:Int)<(l.length:Int):=by omega
     have hi0:(0:Int)≤(i:Int):=by omega
     obtain ⟨b',off,cap',hsl,-,hbl,hcell⟩:=HV.out.at hil
     cases hsl
     obtain ⟨b2,off2,cap2',hsl2,-,hbl2,hcell2⟩:=HU.out.at hil
     cases hsl2
     have m0:=hcell wr (dN HW.out) i hil 0 _ rfl
     have n0:=hcell2 wr (dN HW.out) i hil 0 _ rfl
     have m1:=hcell wr (dN HW.out) i hil 1 _ rfl
     have n1:=hcell2 wr (dN HW.out) i hil 1 _ rfl
     have m2:=hcell wr (dN HW.out) i hil 2 _ rfl
     have n2:=hcell2 wr (dN HW.out) i hil 2 _ rfl
     have m3:=hcell wr (dN HW.out) i hil 3 _ rfl
     have n3:=hcell2 wr (dN HW.out) i hil 3 _ rfl
     simp only [Nat.add_zero] at m0 n0
     clear hcell hcell2
     obtain ⟨x,hx⟩:∃x,l[i]=x:=⟨_,rfl⟩
     rw [hx] at m0 n0 m1 n1 m2 n2 m3 n3
     clear hx
     obtain ⟨x0,x1,x2,x3⟩:=x
     simp only at m0 n0 m1 n1 m2 n2 m3 n3
     go_wp2
     go_quiet (fail)
     go_wp2
     go_roundw
     case rel=>exact ⟨i+1,by simp,by omega,dM HW.out _⟩
     case measure=>simp [intOf];omega
   · have hil':¬(i:Int)<(l.length:Int):=by omega
     go_wp2
     go_ret
     exact ⟨rfl,HW.out⟩

theorem eqUn_yes {w : World} {v u : Value} {l : List Un} (hv : Rr 1 Un.c w v l) (hu : Rr 1 Un.c w u l) (hn : l.length ≤ 4611686018427387904) :
   Calls Tryz.prog 66 #[v,u] w fun e w'=>e=.returned (.bool true)∧∃m,w'=w.drewN m:=by
 have HV:Hid (Rr 1 Un.c w v l):=hv
 have HU:Hid (Rr 1 Un.c w u l):=hu
 obtain ⟨a,cap,rfl,-⟩:=hv
 obtain ⟨a2,cap2,rfl,-⟩:=hu
 go_enter Tryz.func66,Tryz.ntmps66
 go_wp2
 go_loopw [13] (fun v5 wr=>∃i:Nat,v5=.int .i64 (i:Int)∧i≤l.length∧Hid (∃m,wr=w.drewN m)) (fun v5 _=>l.length-(intOf v5).toNat)
 case atStart=>exact ⟨0,rfl,Nat.zero_le _,⟨0,rfl⟩⟩
 case round =>
   obtain ⟨i,rfl,hi,HW⟩:=hrel
   by_cases hil:i<l.length
   · have hil':(i:Int)<(l.length:Int):=by omega
     have hi0:(0:Int)≤(i:Int):=by omega
     obtain ⟨b',off,cap',hsl,-,hbl,hcell⟩:=HV.out.at hil
     cases hsl
     obtain ⟨b2,off2,cap2',hsl2,-,hbl2,hcell2⟩:=HU.out.at hil
     cases hsl2
     have m0:=hcell wr (dN HW.out) i hil 0 _ rfl
     have n0:=hcell2 wr (dN HW.out) i hil 0 _ rfl
     simp only [Nat.add_zero,Nat.mul_one] at m0 n0
     clear hcell hcell2
     obtain ⟨x,hx⟩:∃x,l[i]=x:=⟨_,rfl⟩
     rw [hx] at m0 n0
     clear hx
     go_wp2
     go_quiet (fail)
     go_wp2
     go_roundw
     case rel=>exact ⟨i+1,by simp,by omega,dM HW.out _⟩
     case measure=>simp [intOf];omega
   · have hil':¬(i:Int)<(l.length:Int):=by omega
     go_wp2
     go_ret
     exact ⟨rfl,HW.out⟩

theorem bdr {B:Nat} {w w':World} (h:Below B w w') (n:Nat):Below B w (w'.drewN n):=⟨h.os,h.tape,h.output,h.size,h.block⟩
theorem bdN2 {w w':World} (h:∃m,w'=w.drewN m):Below w.heap.size w w':=by obtain ⟨m,rfl⟩:=h;exact bdr brf m

theorem sameInst_yes {w : World} {x y : In} (he : x.e = y.e) (hx : Rr 4 Vr.c w x.vv x.vars ∧ x.vars.length ≤ 4611686018427387904) (hy : Rr 4 Vr.c w y.vv y.vars ∧ y.vars.length ≤ 4611686018427387904) :
   Calls Tryz.prog 27 #[.agg x.c.toArray,.agg y.c.toArray] w fun e w'=>e=.returned (.bool true)∧Below w.heap.size w w':=by
 have Cvv:Hid (∀W,Below w.heap.size w W→Calls Tryz.prog 65 #[x.vv,y.vv] W fun e w'=>e=.returned (.bool true)∧Below W.heap.size W w'):=fun W hW=>by
   have h1:x.vars=y.vars:=by have:=congrArg In.vars he;exact this
   have k1:=hx.1
   have k2:=hy.1
   rw [← h1] at k2
   exact (eqVr_yes (k1.up hW) (k2.up hW) hx.2).mono fun e w' ⟨p,q⟩=>⟨p,bdN2 q⟩
 obtain ⟨xa,xp,hxv,-⟩:=hx.1
 obtain ⟨ya,yp,hyv,-⟩:=hy.1
 have hl:x.vars=y.vars:=(by have:=congrArg In.vars he;exact this)
 have hf:x.key=y.key∧x.id=y.id:=⟨(by have:=congrArg In.key he;exact this),(by have:=congrArg In.id he;exact this)⟩
 simp only [In.c,hf,hxv,hyv,hl]
 rw [hxv,hyv] at Cvv
 simp only [hl] at Cvv
 clear hx hy he hxv hyv hl hf
 generalize y.key=key0 at *
 generalize y.id=id0 at *
 generalize y.vars.length=nvv at *
 have B0:Hid (Below w.heap.size w ((w.alloc (.cells #[.int .u64 (key0:Int),.string (S id0),.slice xa nvv xp] 58)).alloc (.cells #[.int .u64 (key0:Int),.string (S id0),.slice ya nvv yp] 58))):=(brf.alloc nlr _).alloc (by rw [World.size_alloc];omega) _
 go_enter Tryz.func27,Tryz.ntmps27
 go_wp2_with (go_at_call 65;refine (Cvv.out _ B0.out).mono ?_;rintro e w2 ⟨rfl,b2⟩;(have B2:Hid (Below w.heap.size w w2):=B0.out.trans (b2.mono B0.out.size));clear b2 Cvv B0)
 go_ret
 exact ⟨rfl,B2.out⟩

theorem eqfIn_yes {w : World} {v u : Value} {l m : List In} (hv : Rr 3 In.c w v l) (hu : Rr 3 In.c w u m) (he : l.map In.e = m.map In.e) (hi : ∀ x ∈ l, Rr 4 Vr.c w x.vv x.vars ∧ x.vars.length ≤ 4611686018427387904) (hj : ∀ x ∈ m, Rr 4 Vr.c w x.vv x.vars ∧ x.vars.length ≤ 4611686018427387904) (hn : l.length ≤ 4611686018427387904) :
   Calls Tryz.prog 26 #[v,u,.func (.func 27) #[] #[]] w fun e w'=>e=.returned (.bool true)∧Below w.heap.size w w':=by
 have HV:Hid (Rr 3 In.c w v l):=hv
 have HU:Hid (Rr 3 In.c w u m):=hu
 have hlm:l.length=m.length:=by simpa using congrArg List.length he
 have HK:Hid (∀i (h:i<l.length) (h':i<m.length),l[i].e=m[i].e):=fun i h h'=>by
   have:=congrArg (fun q=>q[i]?) he
   simpa [h,h'] using this
 have HI:Hid (∀x∈l,Rr 4 Vr.c w x.vv x.vars∧x.vars.length≤4611686018427387904):=hi
 have HJ:Hid (∀x∈m,Rr 4 Vr.c w x.vv x.vars∧x.vars.length≤4611686018427387904):=hj
 obtain ⟨a,cap,rfl,-⟩:=hv
 obtain ⟨a2,cap2,rfl,-⟩:=hu
 have HL:Hid (l.length=m.length):=hlm
 rw [← hlm] at HU ⊢
 clear hi hj he hlm
 go_enter Tryz.func26,Tryz.ntmps26
 go_wp2
 go_loopw [17] (fun v5 wr=>∃i:Nat,v5=.int .i64 (i:Int)∧i≤l.length∧Hid (Below w.heap.size w wr)) (fun v5 _=>l.length-(intOf v5).toNat)
 case atStart=>exact ⟨0,rfl,Nat.zero_le _,brf⟩
 case round =>
   obtain ⟨i,rfl,hi,HW⟩:=hrel
   by_cases hil:i<l.length
   · have hil':(i:Int)<(l.length:Int):=by omega
     have hi0:(0:Int)≤(i:Int):=by omega
     have him:i<m.length:=by have:=HL.out;omega
     obtain ⟨b',off,cap',hsl,-,hbl,hcell⟩:=HV.out.at hil
     cases hsl
     have HU2:=HU.out
     rw [HL.out] at HU2
     obtain ⟨b2,off2,cap2',hsl2,-,hbl2,hcell2⟩:=HU2.at him
     injection hsl2 with hs1 hs2 hs3
     subst hs1 hs3
     clear HU2 hs2
     have m0:=hcell wr HW.out i hil 0 _ rfl
     have m1:=hcell wr HW.out i hil 1 _ rfl
     have m2:=hcell wr HW.out i hil 2 _ rfl
     simp only [Nat.add_zero] at m0
     have hxi:=HI.out _ (List.getElem_mem hil)
     have hyi:=HJ.out _ (List.getElem_mem him)
     have hk:=HK.out i hil him
     obtain ⟨x,hx⟩:∃x,l[i]=x:=⟨_,rfl⟩
     obtain ⟨y,hy⟩:∃y,m[i]=y:=⟨_,rfl⟩
     rw [hx] at m0 m1 m2 hxi hk
     rw [hy] at hyi hk
     have CS:Hid (∀W,Below w.heap.size w W→Calls Tryz.prog 27 #[.agg x.c.toArray,.agg y.c.toArray] W fun e w'=>e=.returned (.bool true)∧Below W.heap.size W w'):=fun W hW=>sameInst_yes hk ⟨hxi.1.up hW,hxi.2⟩ ⟨hyi.1.up hW,hyi.2⟩
     obtain ⟨xa,xn,xc,hxa⟩:∃a n c,x.vv=.slice a n c:=by obtain ⟨a,c,e,-⟩:=hxi.1;exact ⟨a,_,c,e⟩
     obtain ⟨ya,yn,yc,hya⟩:∃a n c,y.vv=.slice a n c:=by obtain ⟨a,c,e,-⟩:=hyi.1;exact ⟨a,_,c,e⟩
     have HN:Hid (∀W,Below w.heap.size w W→W.cell? ⟨b2,off2+i*3,none⟩=some (.int .u64 (y.key:Int))∧W.cell? ⟨b2,off2+i*3+1,none⟩=some (.string (S y.id))∧W.cell? ⟨b2,off2+i*3+2,none⟩=some (y.vv)):=fun W hW=>by
       have h0:=hcell2 W hW i him 0 _ rfl
       simp only [Nat.add_zero] at h0
       rw [hy] at h0
       exact ⟨h0,by have:=hcell2 W hW i him 1 _ rfl;rw [hy] at this;exact this,by have:=hcell2 W hW i him 2 _ rfl;rw [hy] at this;exact this⟩
     clear hcell hcell2 hx hxi hyi hk
     rw [hxa] at m2
     rw [hya] at HN
     simp only [In.c,hxa,hya] at CS
     clear hxa hya hy
     generalize x.key=xkey0 at *
     generalize y.key=ykey0 at *
     generalize x.id=xid0 at *
     generalize y.id=yid0 at *
     have hbA:Hid (∀o,Below w.heap.size w (wr.alloc o)):=fun o=>HW.out.alloc HW.out.size _
     have hbB:Hid (∀o o',Below w.heap.size w ((wr.alloc o).alloc o')):=fun o o'=>(hbA.out o).alloc (by have:=HW.out.size;simp;omega) _
     obtain ⟨n0,n1,n2⟩:=HN.out _ (hbA.out (.cells #[.int .u64 (xkey0:Int),.string (S xid0),.slice xa xn xc] 58))
     clear HN
     go_wp2_with (go_at_call 27;refine (CS.out _ (hbB.out _ _)).mono ?_;rintro e w2 ⟨rfl,b2⟩;(have B2:Hid (Below w.heap.size w w2):=bel_of (hbB.out _ _) b2 nlr);clear b2 CS hbA hbB)
     go_roundw
     case rel=>exact ⟨i+1,by simp,by omega,B2.out⟩
     case measure=>simp [intOf];omega
   · have hil':¬(i:Int)<(l.length:Int):=by omega
     go_wp2
     go_ret
     exact ⟨rfl,HW.out⟩

theorem sameListed_yes {w : World} {x y : Ls} (he : x.e = y.e) (hx : Rr 4 Vr.c w x.vv x.vars ∧ x.vars.length ≤ 4611686018427387904) (hy : Rr 4 Vr.c w y.vv y.vars ∧ y.vars.length ≤ 4611686018427387904) :
   Calls Tryz.prog 34 #[.agg x.c.toArray,.agg y.c.toArray] w fun e w'=>e=.returned (.bool true)∧Below w.heap.size w w':=by
 have Cvv:Hid (∀W,Below w.heap.size w W→Calls Tryz.prog 65 #[x.vv,y.vv] W fun e w'=>e=.returned (.bool true)∧Below W.heap.size W w'):=fun W hW=>by
   have h1:x.vars=y.vars:=by have:=congrArg Ls.vars he;exact this
   have k1:=hx.1
   have k2:=hy.1
   rw [← h1] at k2
   exact (eqVr_yes (k1.up hW) (k2.up hW) hx.2).mono fun e w' ⟨p,q⟩=>⟨p,bdN2 q⟩
 obtain ⟨xa,xp,hxv,-⟩:=hx.1
 obtain ⟨ya,yp,hyv,-⟩:=hy.1
 have hl:x.vars=y.vars:=(by have:=congrArg Ls.vars he;exact this)
 have hf:x.token=y.token∧x.inst=y.inst∧x.node=y.node∧x.name=y.name∧x.key=y.key∧x.msg=y.msg:=⟨(by have:=congrArg Ls.token he;exact this),(by have:=congrArg Ls.inst he;exact this),(by have:=congrArg Ls.node he;exact this),(by have:=congrArg Ls.name he;exact this),(by have:=congrArg Ls.key he;exact this),(by have:=congrArg Ls.msg he;exact this)⟩
 simp only [Ls.c,hf,hxv,hyv,hl]
 rw [hxv,hyv] at Cvv
 simp only [hl] at Cvv
 clear hx hy he hxv hyv hl hf
 generalize y.token=token0 at *
 generalize y.inst=inst0 at *
 generalize y.node=node0 at *
 generalize y.name=name0 at *
 generalize y.key=key0 at *
 generalize y.msg=msg0 at *
 generalize y.vars.length=nvv at *
 have B0:Hid (Below w.heap.size w ((w.alloc (.cells #[.int .u64 (token0:Int),.int .u64 (inst0:Int),.int .i64 node0,.string (S name0),.string (S key0),.int .u64 (msg0:Int),.slice xa nvv xp] 81)).alloc (.cells #[.int .u64 (token0:Int),.int .u64 (inst0:Int),.int .i64 node0,.string (S name0),.string (S key0),.int .u64 (msg0:Int),.slice ya nvv yp] 81))):=(brf.alloc nlr _).alloc (by rw [World.size_alloc];omega) _
 go_enter Tryz.func34,Tryz.ntmps34
 go_wp2_with (go_at_call 65;refine (Cvv.out _ B0.out).mono ?_;rintro e w2 ⟨rfl,b2⟩;(have B2:Hid (Below w.heap.size w w2):=B0.out.trans (b2.mono B0.out.size));clear b2 Cvv B0)
 go_ret
 exact ⟨rfl,B2.out⟩

theorem eqfLs_yes {w : World} {v u : Value} {l m : List Ls} (hv : Rr 7 Ls.c w v l) (hu : Rr 7 Ls.c w u m) (he : l.map Ls.e = m.map Ls.e) (hi : ∀ x ∈ l, Rr 4 Vr.c w x.vv x.vars ∧ x.vars.length ≤ 4611686018427387904) (hj : ∀ x ∈ m, Rr 4 Vr.c w x.vv x.vars ∧ x.vars.length ≤ 4611686018427387904) (hn : l.length ≤ 4611686018427387904) :
   Calls Tryz.prog 33 #[v,u,.func (.func 34) #[] #[]] w fun e w'=>e=.returned (.bool true)∧Below w.heap.size w w':=by
 have HV:Hid (Rr 7 Ls.c w v l):=hv
 have HU:Hid (Rr 7 Ls.c w u m):=hu
 have hlm:l.length=m.length:=by simpa using congrArg List.length he
 have HK:Hid (∀i (h:i<l.length) (h':i<m.length),l[i].e=m[i].e):=fun i h h'=>by
   have:=congrArg (fun q=>q[i]?) he
   simpa [h,h'] using this
 have HI:Hid (∀x∈l,Rr 4 Vr.c w x.vv x.vars∧x.vars.length≤4611686018427387904):=hi
 have HJ:Hid (∀x∈m,Rr 4 Vr.c w x.vv x.vars∧x.vars.length≤4611686018427387904):=hj
 obtain ⟨a,cap,rfl,-⟩:=hv
 obtain ⟨a2,cap2,rfl,-⟩:=hu
 have HL:Hid (l.length=m.length):=hlm
 rw [← hlm] at HU ⊢
 clear hi hj he hlm
 go_enter Tryz.func33,Tryz.ntmps33
 go_wp2
 go_loopw [17] (fun v5 wr=>∃i:Nat,v5=.int .i64 (i:Int)∧i≤l.length∧Hid (Below w.heap.size w wr)) (fun v5 _=>l.length-(intOf v5).toNat)
 case atStart=>exact ⟨0,rfl,Nat.zero_le _,brf⟩
 case round =>
   obtain ⟨i,rfl,hi,HW⟩:=hrel
   by_cases hil:i<l.length
   · have hil':(i:Int)<(l.length:Int):=by omega
     have hi0:(0:Int)≤(i:Int):=by omega
     have him:i<m.length:=by have:=HL.out;omega
     obtain ⟨b',off,cap',hsl,-,hbl,hcell⟩:=HV.out.at hil
     cases hsl
     have HU2:=HU.out
     rw [HL.out] at HU2
     obtain ⟨b2,off2,cap2',hsl2,-,hbl2,hcell2⟩:=HU2.at him
     injection hsl2 with hs1 hs2 hs3
     subst hs1 hs3
     clear HU2 hs2
     have m0:=hcell wr HW.out i hil 0 _ rfl
     have m1:=hcell wr HW.out i hil 1 _ rfl
     have m2:=hcell wr HW.out i hil 2 _ rfl
     have m3:=hcell wr HW.out i hil 3 _ rfl
     have m4:=hcell wr HW.out i hil 4 _ rfl
     have m5:=hcell wr HW.out i hil 5 _ rfl
     have m6:=hcell wr HW.out i hil 6 _ rfl
     simp only [Nat.add_zero] at m0
     have hxi:=HI.out _ (List.getElem_mem hil)
     have hyi:=HJ.out _ (List.getElem_mem him)
     have hk:=HK.out i hil him
     obtain ⟨x,hx⟩:∃x,l[i]=x:=⟨_,rfl⟩
     obtain ⟨y,hy⟩:∃y,m[i]=y:=⟨_,rfl⟩
     rw [hx] at m0 m1 m2 m3 m4 m5 m6 hxi hk
     rw [hy] at hyi hk
     have CS:Hid (∀W,Below w.heap.size w W→Calls Tryz.prog 34 #[.agg x.c.toArray,.agg y.c.toArray] W fun e w'=>e=.returned (.bool true)∧Below W.heap.size W w'):=fun W hW=>sameListed_yes hk ⟨hxi.1.up hW,hxi.2⟩ ⟨hyi.1.up hW,hyi.2⟩
     obtain ⟨xa,xn,xc,hxa⟩:∃a n c,x.vv=.slice a n c:=by obtain ⟨a,c,e,-⟩:=hxi.1;exact ⟨a,_,c,e⟩
     obtain ⟨ya,yn,yc,hya⟩:∃a n c,y.vv=.slice a n c:=by obtain ⟨a,c,e,-⟩:=hyi.1;exact ⟨a,_,c,e⟩
     have HN:Hid (∀W,Below w.heap.size w W→W.cell? ⟨b2,off2+i*7,none⟩=some (.int .u64 (y.token:Int))∧W.cell? ⟨b2,off2+i*7+1,none⟩=some (.int .u64 (y.inst:Int))∧W.cell? ⟨b2,off2+i*7+2,none⟩=some (.int .i64 y.node)∧W.cell? ⟨b2,off2+i*7+3,none⟩=some (.string (S y.name))∧W.cell? ⟨b2,off2+i*7+4,none⟩=some (.string (S y.key))∧W.cell? ⟨b2,off2+i*7+5,none⟩=some (.int .u64 (y.msg:Int))∧W.cell? ⟨b2,off2+i*7+6,none⟩=some (y.vv)):=fun W hW=>by
       have h0:=hcell2 W hW i him 0 _ rfl
       simp only [Nat.add_zero] at h0
       rw [hy] at h0
       exact ⟨h0,by have:=hcell2 W hW i him 1 _ rfl;rw [hy] at this;exact this,by have:=hcell2 W hW i him 2 _ rfl;rw [hy] at this;exact this,by have:=hcell2 W hW i him 3 _ rfl;rw [hy] at this;exact this,by have:=hcell2 W hW i him 4 _ rfl;rw [hy] at this;exact this,by have:=hcell2 W hW i him 5 _ rfl;rw [hy] at this;exact this,by have:=hcell2 W hW i him 6 _ rfl;rw [hy] at this;exact this⟩
     clear hcell hcell2 hx hxi hyi hk
     rw [hxa] at m6
     rw [hya] at HN
     simp only [Ls.c,hxa,hya] at CS
     clear hxa hya hy
     generalize x.token=xtoken0 at *
     generalize y.token=ytoken0 at *
     generalize x.inst=xinst0 at *
     generalize y.inst=yinst0 at *
     generalize x.node=xnode0 at *
     generalize y.node=ynode0 at *
     generalize x.name=xname0 at *
     generalize y.name=yname0 at *
     generalize x.key=xkey0 at *
     generalize y.key=ykey0 at *
     generalize x.msg=xmsg0 at *
     generalize y.msg=ymsg0 at *
     have hbA:Hid (∀o,Below w.heap.size w (wr.alloc o)):=fun o=>HW.out.alloc HW.out.size _
     have hbB:Hid (∀o o',Below w.heap.size w ((wr.alloc o).alloc o')):=fun o o'=>(hbA.out o).alloc (by have:=HW.out.size;simp;omega) _
     obtain ⟨n0,n1,n2,n3,n4,n5,n6⟩:=HN.out _ (hbA.out (.cells #[.int .u64 (xtoken0:Int),.int .u64 (xinst0:Int),.int .i64 xnode0,.string (S xname0),.string (S xkey0),.int .u64 (xmsg0:Int),.slice xa xn xc] 81))
     clear HN
     go_wp2_with (go_at_call 34;refine (CS.out _ (hbB.out _ _)).mono ?_;rintro e w2 ⟨rfl,b2⟩;(have B2:Hid (Below w.heap.size w w2):=bel_of (hbB.out _ _) b2 nlr);clear b2 CS hbA hbB)
     go_roundw
     case rel=>exact ⟨i+1,by simp,by omega,B2.out⟩
     case measure=>simp [intOf];omega
   · have hil':¬(i:Int)<(l.length:Int):=by omega
     go_wp2
     go_ret
     exact ⟨rfl,HW.out⟩

theorem sameMessage_yes {w : World} {x y : Ms} (he : x.e = y.e) (hx : Rr 4 Vr.c w x.vv x.vars ∧ x.vars.length ≤ 4611686018427387904 ∧ Rr 1 Un.c w x.iv x.its ∧ x.its.length ≤ 4611686018427387904) (hy : Rr 4 Vr.c w y.vv y.vars ∧ y.vars.length ≤ 4611686018427387904 ∧ Rr 1 Un.c w y.iv y.its ∧ y.its.length ≤ 4611686018427387904) :
   Calls Tryz.prog 36 #[.agg x.c.toArray,.agg y.c.toArray] w fun e w'=>e=.returned (.bool true)∧Below w.heap.size w w':=by
 have Cvv:Hid (∀W,Below w.heap.size w W→Calls Tryz.prog 65 #[x.vv,y.vv] W fun e w'=>e=.returned (.bool true)∧Below W.heap.size W w'):=fun W hW=>by
   have h1:x.vars=y.vars:=by have:=congrArg Ms.vars he;exact this
   have k1:=hx.1
   have k2:=hy.1
   rw [← h1] at k2
   exact (eqVr_yes (k1.up hW) (k2.up hW) hx.2.1).mono fun e w' ⟨p,q⟩=>⟨p,bdN2 q⟩
 have Civ:Hid (∀W,Below w.heap.size w W→Calls Tryz.prog 66 #[x.iv,y.iv] W fun e w'=>e=.returned (.bool true)∧Below W.heap.size W w'):=fun W hW=>by
   have h1:x.its=y.its:=by have:=congrArg Ms.its he;exact this
   have k1:=hx.2.2.1
   have k2:=hy.2.2.1
   rw [← h1] at k2
   exact (eqUn_yes (k1.up hW) (k2.up hW) hx.2.2.2).mono fun e w' ⟨p,q⟩=>⟨p,bdN2 q⟩
 obtain ⟨xa,xp,hxv,-⟩:=hx.1
 obtain ⟨ya,yp,hyv,-⟩:=hy.1
 obtain ⟨xb,xq,hxi,-⟩:=hx.2.2.1
 obtain ⟨yb,yq,hyi,-⟩:=hy.2.2.1
 have hl:x.vars=y.vars∧x.its=y.its:=⟨(by have:=congrArg Ms.vars he;exact this),(by have:=congrArg Ms.its he;exact this)⟩
 have hf:x.key=y.key∧x.name=y.name∧x.for_=y.for_∧x.id=y.id∧x.unt=y.unt:=⟨(by have:=congrArg Ms.key he;exact this),(by have:=congrArg Ms.name he;exact this),(by have:=congrArg Ms.for_ he;exact this),(by have:=congrArg Ms.id he;exact this),(by have:=congrArg Ms.unt he;exact this)⟩
 simp only [Ms.c,hf,hxv,hyv,hxi,hyi,hl]
 rw [hxv,hyv] at Cvv
 rw [hxi,hyi] at Civ
 simp only [hl] at Cvv Civ
 clear hx hy he hxv hyv hl hf hxi hyi
 generalize y.key=key0 at *
 generalize y.name=name0 at *
 generalize y.for_=for_0 at *
 generalize y.id=id0 at *
 generalize y.unt=unt0 at *
 generalize y.vars.length=nvv at *
 generalize y.its.length=niv at *
 have B0:Hid (Below w.heap.size w ((w.alloc (.cells #[.int .u64 (key0:Int),.string (S name0),.string (S for_0),.string (S id0),.int .i64 unt0,.slice xa nvv xp,.slice xb niv xq] 87)).alloc (.cells #[.int .u64 (key0:Int),.string (S name0),.string (S for_0),.string (S id0),.int .i64 unt0,.slice ya nvv yp,.slice yb niv yq] 87))):=(brf.alloc nlr _).alloc (by rw [World.size_alloc];omega) _
 go_enter Tryz.func36,Tryz.ntmps36
 have HS:Hid (∀W,Below ((w.alloc (.cells #[.int .u64 (key0:Int),.string (S name0),.string (S for_0),.string (S id0),.int .i64 unt0,.slice xa nvv xp,.slice xb niv xq] 87)).alloc (.cells #[.int .u64 (key0:Int),.string (S name0),.string (S for_0),.string (S id0),.int .i64 unt0,.slice ya nvv yp,.slice yb niv yq] 87)).heap.size ((w.alloc (.cells #[.int .u64 (key0:Int),.string (S name0),.string (S for_0),.string (S id0),.int .i64 unt0,.slice xa nvv xp,.slice xb niv xq] 87)).alloc (.cells #[.int .u64 (key0:Int),.string (S name0),.string (S for_0),.string (S id0),.int .i64 unt0,.slice ya nvv yp,.slice yb niv yq] 87)) W→W.cell? ⟨w.heap.size,6,none⟩=some (.slice xb niv xq)∧W.cell? ⟨w.heap.size+1,6,none⟩=some (.slice yb niv yq)):=by
   intro W hW
   refine ⟨(hW.cell (p:=⟨w.heap.size,6,none⟩) (by simp;omega)).trans (by go_simp),(hW.cell (p:=⟨w.heap.size+1,6,none⟩) (by simp)).trans (by go_simp)⟩
 go_wp2_with (first
   | (go_at_call 65;refine (Cvv.out _ B0.out).mono ?_;rintro e w2 ⟨rfl,b2⟩;obtain ⟨s1,s2⟩:=HS.out w2 b2;(have B2:Hid (Below w.heap.size w w2):=B0.out.trans (b2.mono B0.out.size));clear b2 Cvv HS B0)
   | (go_at_call 66;refine (Civ.out _ B2.out).mono ?_;rintro e w3 ⟨rfl,b3⟩;(have B3:Hid (Below w.heap.size w w3):=B2.out.trans (b3.mono B2.out.size));clear b3 Civ))
 go_ret
 exact ⟨rfl,B3.out⟩

theorem eqfMs_yes {w : World} {v u : Value} {l m : List Ms} (hv : Rr 7 Ms.c w v l) (hu : Rr 7 Ms.c w u m) (he : l.map Ms.e = m.map Ms.e) (hi : ∀ x ∈ l, Rr 4 Vr.c w x.vv x.vars ∧ x.vars.length ≤ 4611686018427387904 ∧ Rr 1 Un.c w x.iv x.its ∧ x.its.length ≤ 4611686018427387904) (hj : ∀ x ∈ m, Rr 4 Vr.c w x.vv x.vars ∧ x.vars.length ≤ 4611686018427387904 ∧ Rr 1 Un.c w x.iv x.its ∧ x.its.length ≤ 4611686018427387904) (hn : l.length ≤ 4611686018427387904) :
   Calls Tryz.prog 35 #[v,u,.func (.func 36) #[] #[]] w fun e w'=>e=.returned (.bool true)∧Below w.heap.size w w':=by
 have HV:Hid (Rr 7 Ms.c w v l):=hv
 have HU:Hid (Rr 7 Ms.c w u m):=hu
 have hlm:l.length=m.length:=by simpa using congrArg List.length he
 have HK:Hid (∀i (h:i<l.length) (h':i<m.length),l[i].e=m[i].e):=fun i h h'=>by
   have:=congrArg (fun q=>q[i]?) he
   simpa [h,h'] using this
 have HI:Hid (∀x∈l,Rr 4 Vr.c w x.vv x.vars∧x.vars.length≤4611686018427387904∧Rr 1 Un.c w x.iv x.its∧x.its.length≤4611686018427387904):=hi
 have HJ:Hid (∀x∈m,Rr 4 Vr.c w x.vv x.vars∧x.vars.length≤4611686018427387904∧Rr 1 Un.c w x.iv x.its∧x.its.length≤4611686018427387904):=hj
 obtain ⟨a,cap,rfl,-⟩:=hv
 obtain ⟨a2,cap2,rfl,-⟩:=hu
 have HL:Hid (l.length=m.length):=hlm
 rw [← hlm] at HU ⊢
 clear hi hj he hlm
 go_enter Tryz.func35,Tryz.ntmps35
 go_wp2
 go_loopw [17] (fun v5 wr=>∃i:Nat,v5=.int .i64 (i:Int)∧i≤l.length∧Hid (Below w.heap.size w wr)) (fun v5 _=>l.length-(intOf v5).toNat)
 case atStart=>exact ⟨0,rfl,Nat.zero_le _,brf⟩
 case round =>
   obtain ⟨i,rfl,hi,HW⟩:=hrel
   by_cases hil:i<l.length
   · have hil':(i:Int)<(l.length:Int):=by omega
     have hi0:(0:Int)≤(i:Int):=by omega
     have him:i<m.length:=by have:=HL.out;omega
     obtain ⟨b',off,cap',hsl,-,hbl,hcell⟩:=HV.out.at hil
     cases hsl
     have HU2:=HU.out
     rw [HL.out] at HU2
     obtain ⟨b2,off2,cap2',hsl2,-,hbl2,hcell2⟩:=HU2.at him
     injection hsl2 with hs1 hs2 hs3
     subst hs1 hs3
     clear HU2 hs2
     have m0:=hcell wr HW.out i hil 0 _ rfl
     have m1:=hcell wr HW.out i hil 1 _ rfl
     have m2:=hcell wr HW.out i hil 2 _ rfl
     have m3:=hcell wr HW.out i hil 3 _ rfl
     have m4:=hcell wr HW.out i hil 4 _ rfl
     have m5:=hcell wr HW.out i hil 5 _ rfl
     have m6:=hcell wr HW.out i hil 6 _ rfl
     simp only [Nat.add_zero] at m0
     have hxi:=HI.out _ (List.getElem_mem hil)
     have hyi:=HJ.out _ (List.getElem_mem him)
     have hk:=HK.out i hil him
     obtain ⟨x,hx⟩:∃x,l[i]=x:=⟨_,rfl⟩
     obtain ⟨y,hy⟩:∃y,m[i]=y:=⟨_,rfl⟩
     rw [hx] at m0 m1 m2 m3 m4 m5 m6 hxi hk
     rw [hy] at hyi hk
     have CS:Hid (∀W,Below w.heap.size w W→Calls Tryz.prog 36 #[.agg x.c.toArray,.agg y.c.toArray] W fun e w'=>e=.returned (.bool true)∧Below W.heap.size W w'):=fun W hW=>sameMessage_yes hk ⟨hxi.1.up hW,hxi.2.1,hxi.2.2.1.up hW,hxi.2.2.2⟩ ⟨hyi.1.up hW,hyi.2.1,hyi.2.2.1.up hW,hyi.2.2.2⟩
     obtain ⟨xa,xn,xc,hxa⟩:∃a n c,x.vv=.slice a n c:=by obtain ⟨a,c,e,-⟩:=hxi.1;exact ⟨a,_,c,e⟩
     obtain ⟨ya,yn,yc,hya⟩:∃a n c,y.vv=.slice a n c:=by obtain ⟨a,c,e,-⟩:=hyi.1;exact ⟨a,_,c,e⟩
     obtain ⟨xb,xm,xd,hxb⟩:∃a n c,x.iv=.slice a n c:=by obtain ⟨a,c,e,-⟩:=hxi.2.2.1;exact ⟨a,_,c,e⟩
     obtain ⟨yb,ym,yd,hyb⟩:∃a n c,y.iv=.slice a n c:=by obtain ⟨a,c,e,-⟩:=hyi.2.2.1;exact ⟨a,_,c,e⟩
     have HN:Hid (∀W,Below w.heap.size w W→W.cell? ⟨b2,off2+i*7,none⟩=some (.int .u64 (y.key:Int))∧W.cell? ⟨b2,off2+i*7+1,none⟩=some (.string (S y.name))∧W.cell? ⟨b2,off2+i*7+2,none⟩=some (.string (S y.for_))∧W.cell? ⟨b2,off2+i*7+3,none⟩=some (.string (S y.id))∧W.cell? ⟨b2,off2+i*7+4,none⟩=some (.int .i64 y.unt)∧W.cell? ⟨b2,off2+i*7+5,none⟩=some (y.vv)∧W.cell? ⟨b2,off2+i*7+6,none⟩=some (y.iv)):=fun W hW=>by
       have h0:=hcell2 W hW i him 0 _ rfl
       simp only [Nat.add_zero] at h0
       rw [hy] at h0
       exact ⟨h0,by have:=hcell2 W hW i him 1 _ rfl;rw [hy] at this;exact this,by have:=hcell2 W hW i him 2 _ rfl;rw [hy] at this;exact this,by have:=hcell2 W hW i him 3 _ rfl;rw [hy] at this;exact this,by have:=hcell2 W hW i him 4 _ rfl;rw [hy] at this;exact this,by have:=hcell2 W hW i him 5 _ rfl;rw [hy] at this;exact this,by have:=hcell2 W hW i him 6 _ rfl;rw [hy] at this;exact this⟩
     clear hcell hcell2 hx hxi hyi hk
     rw [hxa] at m5
     rw [hxb] at m6
     rw [hya,hyb] at HN
     simp only [Ms.c,hxa,hya,hxb,hyb] at CS
     clear hxa hya hxb hyb hy
     generalize x.key=xkey0 at *
     generalize y.key=ykey0 at *
     generalize x.name=xname0 at *
     generalize y.name=yname0 at *
     generalize x.for_=xfor_0 at *
     generalize y.for_=yfor_0 at *
     generalize x.id=xid0 at *
     generalize y.id=yid0 at *
     generalize x.unt=xunt0 at *
     generalize y.unt=yunt0 at *
     have hbA:Hid (∀o,Below w.heap.size w (wr.alloc o)):=fun o=>HW.out.alloc HW.out.size _
     have hbB:Hid (∀o o',Below w.heap.size w ((wr.alloc o).alloc o')):=fun o o'=>(hbA.out o).alloc (by have:=HW.out.size;simp;omega) _
     obtain ⟨n0,n1,n2,n3,n4,n5,n6⟩:=HN.out _ (hbA.out (.cells #[.int .u64 (xkey0:Int),.string (S xname0),.string (S xfor_0),.string (S xid0),.int .i64 xunt0,.slice xa xn xc,.slice xb xm xd] 87))
     clear HN
     go_wp2_with (go_at_call 36;refine (CS.out _ (hbB.out _ _)).mono ?_;rintro e w2 ⟨rfl,b2⟩;(have B2:Hid (Below w.heap.size w w2):=bel_of (hbB.out _ _) b2 nlr);clear b2 CS hbA hbB)
     go_roundw
     case rel=>exact ⟨i+1,by simp,by omega,B2.out⟩
     case measure=>simp [intOf];omega
   · have hil':¬(i:Int)<(l.length:Int):=by omega
     go_wp2
     go_ret
     exact ⟨rfl,HW.out⟩


theorem fSame_core {w : World} (pos done made : Nat) (aDe bDe : Option Addr) (nDe acD bcD : Nat) (aIn bIn : Option Addr) (nIn acI bcI : Nat) (aTk bTk : Option Addr) (nTk acT bcT : Nat) (aJb bJb : Option Addr) (nJb acJ bcJ : Nat) (aTm bTm : Option Addr) (nTm acM bcM : Nat) (aSb bSb : Option Addr) (nSb acS bcS : Nat) (aKp bKp : Option Addr) (nKp acK bcK : Nat) (aLs bLs : Option Addr) (nLs acL bcL : Nat) (aMs bMs : Option Addr) (nMs acG bcG : Nat) (CDe : Hid (∀ W, Below w.heap.size w W → Calls Tryz.prog 25 #[.slice aDe nDe acD, .slice bDe nDe bcD] W fun e w' => e = .returned (.bool true) ∧ Below W.heap.size W w')) (CIn : Hid (∀ W, Below w.heap.size w W → Calls Tryz.prog 26 #[.slice aIn nIn acI, .slice bIn nIn bcI, .func (.func 27) #[] #[]] W fun e w' => e = .returned (.bool true) ∧ Below W.heap.size W w')) (CTk : Hid (∀ W, Below w.heap.size w W → Calls Tryz.prog 28 #[.slice aTk nTk acT, .slice bTk nTk bcT] W fun e w' => e = .returned (.bool true) ∧ Below W.heap.size W w')) (CJb : Hid (∀ W, Below w.heap.size w W → Calls Tryz.prog 29 #[.slice aJb nJb acJ, .slice bJb nJb bcJ] W fun e w' => e = .returned (.bool true) ∧ Below W.heap.size W w')) (CTm : Hid (∀ W, Below w.heap.size w W → Calls Tryz.prog 30 #[.slice aTm nTm acM, .slice bTm nTm bcM] W fun e w' => e = .returned (.bool true) ∧ Below W.heap.size W w')) (CSb : Hid (∀ W, Below w.heap.size w W → Calls Tryz.prog 31 #[.slice aSb nSb acS, .slice bSb nSb bcS] W fun e w' => e = .returned (.bool true) ∧ Below W.heap.size W w')) (CKp : Hid (∀ W, Below w.heap.size w W → Calls Tryz.prog 32 #[.slice aKp nKp acK, .slice bKp nKp bcK] W fun e w' => e = .returned (.bool true) ∧ Below W.heap.size W w')) (CLs : Hid (∀ W, Below w.heap.size w W → Calls Tryz.prog 33 #[.slice aLs nLs acL, .slice bLs nLs bcL, .func (.func 34) #[] #[]] W fun e w' => e = .returned (.bool true) ∧ Below W.heap.size W w')) (CMs : Hid (∀ W, Below w.heap.size w W → Calls Tryz.prog 35 #[.slice aMs nMs acG, .slice bMs nMs bcG, .func (.func 36) #[] #[]] W fun e w' => e = .returned (.bool true) ∧ Below W.heap.size W w')) :
   Calls Tryz.prog 7 #[.agg #[.int .u64 (pos:Int),.int .u64 (done:Int),.int .u64 (made:Int),.slice aDe nDe acD,.slice aIn nIn acI,.slice aTk nTk acT,.slice aJb nJb acJ,.slice aTm nTm acM,.slice aSb nSb acS,.slice aKp nKp acK,.slice aLs nLs acL,.slice aMs nMs acG],.agg #[.int .u64 (pos:Int),.int .u64 (done:Int),.int .u64 (made:Int),.slice bDe nDe bcD,.slice bIn nIn bcI,.slice bTk nTk bcT,.slice bJb nJb bcJ,.slice bTm nTm bcM,.slice bSb nSb bcS,.slice bKp nKp bcK,.slice bLs nLs bcL,.slice bMs nMs bcG]] w fun e w'=>e=.returned (.bool true)∧Below w.heap.size w w':=by
 have B0:Hid (Below w.heap.size w ((w.alloc (.cells #[.int .u64 (pos:Int),.int .u64 (done:Int),.int .u64 (made:Int),.slice aDe nDe acD,.slice aIn nIn acI,.slice aTk nTk acT,.slice aJb nJb acJ,.slice aTm nTm acM,.slice aSb nSb acS,.slice aKp nKp acK,.slice aLs nLs acL,.slice aMs nMs acG] 33)).alloc (.cells #[.int .u64 (pos:Int),.int .u64 (done:Int),.int .u64 (made:Int),.slice bDe nDe bcD,.slice bIn nIn bcI,.slice bTk nTk bcT,.slice bJb nJb bcJ,.slice bTm nTm bcM,.slice bSb nSb bcS,.slice bKp nKp bcK,.slice bLs nLs bcL,.slice bMs nMs bcG] 33))):=(brf.alloc nlr _).alloc (by rw [World.size_alloc];omega) _
 have HS:Hid (∀W,Below ((w.alloc (.cells #[.int .u64 (pos:Int),.int .u64 (done:Int),.int .u64 (made:Int),.slice aDe nDe acD,.slice aIn nIn acI,.slice aTk nTk acT,.slice aJb nJb acJ,.slice aTm nTm acM,.slice aSb nSb acS,.slice aKp nKp acK,.slice aLs nLs acL,.slice aMs nMs acG] 33)).alloc (.cells #[.int .u64 (pos:Int),.int .u64 (done:Int),.int .u64 (made:Int),.slice bDe nDe bcD,.slice bIn nIn bcI,.slice bTk nTk bcT,.slice bJb nJb bcJ,.slice bTm nTm bcM,.slice bSb nSb bcS,.slice bKp nKp bcK,.slice bLs nLs bcL,.slice bMs nMs bcG] 33)).heap.size ((w.alloc (.cells #[.int .u64 (pos:Int),.int .u64 (done:Int),.int .u64 (made:Int),.slice aDe nDe acD,.slice aIn nIn acI,.slice aTk nTk acT,.slice aJb nJb acJ,.slice aTm nTm acM,.slice aSb nSb acS,.slice aKp nKp acK,.slice aLs nLs acL,.slice aMs nMs acG] 33)).alloc (.cells #[.int .u64 (pos:Int),.int .u64 (done:Int),.int .u64 (made:Int),.slice bDe nDe bcD,.slice bIn nIn bcI,.slice bTk nTk bcT,.slice bJb nJb bcJ,.slice bTm nTm bcM,.slice bSb nSb bcS,.slice bKp nKp bcK,.slice bLs nLs bcL,.slice bMs nMs bcG] 33)) W→∀(j:Nat) (u:Value),(([.int .u64 (pos:Int),.int .u64 (done:Int),.int .u64 (made:Int),.slice aDe nDe acD,.slice aIn nIn acI,.slice aTk nTk acT,.slice aJb nJb acJ,.slice aTm nTm acM,.slice aSb nSb acS,.slice aKp nKp acK,.slice aLs nLs acL,.slice aMs nMs acG]:List Value)[j]?=some u→W.cell? ⟨w.heap.size,j,none⟩=some u)∧(([.int .u64 (pos:Int),.int .u64 (done:Int),.int .u64 (made:Int),.slice bDe nDe bcD,.slice bIn nIn bcI,.slice bTk nTk bcT,.slice bJb nJb bcJ,.slice bTm nTm bcM,.slice bSb nSb bcS,.slice bKp nKp bcK,.slice bLs nLs bcL,.slice bMs nMs bcG]:List Value)[j]?=some u→W.cell? ⟨w.heap.size+1,j,none⟩=some u)):=by
   intro W hW j u
   refine ⟨fun hj=>?_,fun hj=>?_⟩
   · refine (hW.cell (p:=⟨w.heap.size,j,none⟩) (by simp;omega)).trans ?_
     refine (World.cell?_alloc_lt _ _ _ (by simp)).trans ?_
     rw [World.cell?_alloc_new]
     simpa using hj
   · refine (hW.cell (p:=⟨w.heap.size+1,j,none⟩) (by simp)).trans ?_
     rw [show w.heap.size+1=(w.alloc (.cells #[.int .u64 (pos:Int),.int .u64 (done:Int),.int .u64 (made:Int),.slice aDe nDe acD,.slice aIn nIn acI,.slice aTk nTk acT,.slice aJb nJb acJ,.slice aTm nTm acM,.slice aSb nSb acS,.slice aKp nKp acK,.slice aLs nLs acL,.slice aMs nMs acG] 33)).heap.size by simp]
     rw [World.cell?_alloc_new]
     simpa using hj
 have x0:=(HS.out _ brf 0 _).1 rfl
 have y0:=(HS.out _ brf 0 _).2 rfl
 have x1:=(HS.out _ brf 1 _).1 rfl
 have y1:=(HS.out _ brf 1 _).2 rfl
 have x2:=(HS.out _ brf 2 _).1 rfl
 have y2:=(HS.out _ brf 2 _).2 rfl
 have x3:=(HS.out _ brf 3 _).1 rfl
 have y3:=(HS.out _ brf 3 _).2 rfl
 go_enter Tryz.func7,Tryz.ntmps7
 go_wp2_with (first
   | (go_at_call 25;refine (CDe.out _ B0.out).mono ?_;rintro e w1 ⟨rfl,b1⟩;(have E1:Hid (Below ((w.alloc (.cells #[.int .u64 (pos:Int),.int .u64 (done:Int),.int .u64 (made:Int),.slice aDe nDe acD,.slice aIn nIn acI,.slice aTk nTk acT,.slice aJb nJb acJ,.slice aTm nTm acM,.slice aSb nSb acS,.slice aKp nKp acK,.slice aLs nLs acL,.slice aMs nMs acG] 33)).alloc (.cells #[.int .u64 (pos:Int),.int .u64 (done:Int),.int .u64 (made:Int),.slice bDe nDe bcD,.slice bIn nIn bcI,.slice bTk nTk bcT,.slice bJb nJb bcJ,.slice bTm nTm bcM,.slice bSb nSb bcS,.slice bKp nKp bcK,.slice bLs nLs bcL,.slice bMs nMs bcG] 33)).heap.size ((w.alloc (.cells #[.int .u64 (pos:Int),.int .u64 (done:Int),.int .u64 (made:Int),.slice aDe nDe acD,.slice aIn nIn acI,.slice aTk nTk acT,.slice aJb nJb acJ,.slice aTm nTm acM,.slice aSb nSb acS,.slice aKp nKp acK,.slice aLs nLs acL,.slice aMs nMs acG] 33)).alloc (.cells #[.int .u64 (pos:Int),.int .u64 (done:Int),.int .u64 (made:Int),.slice bDe nDe bcD,.slice bIn nIn bcI,.slice bTk nTk bcT,.slice bJb nJb bcJ,.slice bTm nTm bcM,.slice bSb nSb bcS,.slice bKp nKp bcK,.slice bLs nLs bcL,.slice bMs nMs bcG] 33)) w1):=b1);(have B1:Hid (Below w.heap.size w w1):=B0.out.trans (b1.mono B0.out.size));(have x4:=(HS.out _ E1.out 4 _).1 rfl);(have y4:=(HS.out _ E1.out 4 _).2 rfl);clear b1 CDe x3 y3)
   | (go_at_call 26;refine (CIn.out _ B1.out).mono ?_;rintro e w2 ⟨rfl,b2⟩;(have E2:Hid (Below ((w.alloc (.cells #[.int .u64 (pos:Int),.int .u64 (done:Int),.int .u64 (made:Int),.slice aDe nDe acD,.slice aIn nIn acI,.slice aTk nTk acT,.slice aJb nJb acJ,.slice aTm nTm acM,.slice aSb nSb acS,.slice aKp nKp acK,.slice aLs nLs acL,.slice aMs nMs acG] 33)).alloc (.cells #[.int .u64 (pos:Int),.int .u64 (done:Int),.int .u64 (made:Int),.slice bDe nDe bcD,.slice bIn nIn bcI,.slice bTk nTk bcT,.slice bJb nJb bcJ,.slice bTm nTm bcM,.slice bSb nSb bcS,.slice bKp nKp bcK,.slice bLs nLs bcL,.slice bMs nMs bcG] 33)).heap.size ((w.alloc (.cells #[.int .u64 (pos:Int),.int .u64 (done:Int),.int .u64 (made:Int),.slice aDe nDe acD,.slice aIn nIn acI,.slice aTk nTk acT,.slice aJb nJb acJ,.slice aTm nTm acM,.slice aSb nSb acS,.slice aKp nKp acK,.slice aLs nLs acL,.slice aMs nMs acG] 33)).alloc (.cells #[.int .u64 (pos:Int),.int .u64 (done:Int),.int .u64 (made:Int),.slice bDe nDe bcD,.slice bIn nIn bcI,.slice bTk nTk bcT,.slice bJb nJb bcJ,.slice bTm nTm bcM,.slice bSb nSb bcS,.slice bKp nKp bcK,.slice bLs nLs bcL,.slice bMs nMs bcG] 33)) w2):=E1.out.trans (b2.mono E1.out.size));(have B2:Hid (Below w.heap.size w w2):=B1.out.trans (b2.mono B1.out.size));(have x5:=(HS.out _ E2.out 5 _).1 rfl);(have y5:=(HS.out _ E2.out 5 _).2 rfl);clear b2 CIn x4 y4)
   | (go_at_call 28;refine (CTk.out _ B2.out).mono ?_;rintro e w3 ⟨rfl,b3⟩;(have E3:Hid (Below ((w.alloc (.cells #[.int .u64 (pos:Int),.int .u64 (done:Int),.int .u64 (made:Int),.slice aDe nDe acD,.slice aIn nIn acI,.slice aTk nTk acT,.slice aJb nJb acJ,.slice aTm nTm acM,.slice aSb nSb acS,.slice aKp nKp acK,.slice aLs nLs acL,.slice aMs nMs acG] 33)).alloc (.cells #[.int .u64 (pos:Int),.int .u64 (done:Int),.int .u64 (made:Int),.slice bDe nDe bcD,.slice bIn nIn bcI,.slice bTk nTk bcT,.slice bJb nJb bcJ,.slice bTm nTm bcM,.slice bSb nSb bcS,.slice bKp nKp bcK,.slice bLs nLs bcL,.slice bMs nMs bcG] 33)).heap.size ((w.alloc (.cells #[.int .u64 (pos:Int),.int .u64 (done:Int),.int .u64 (made:Int),.slice aDe nDe acD,.slice aIn nIn acI,.slice aTk nTk acT,.slice aJb nJb acJ,.slice aTm nTm acM,.slice aSb nSb acS,.slice aKp nKp acK,.slice aLs nLs acL,.slice aMs nMs acG] 33)).alloc (.cells #[.int .u64 (pos:Int),.int .u64 (done:Int),.int .u64 (made:Int),.slice bDe nDe bcD,.slice bIn nIn bcI,.slice bTk nTk bcT,.slice bJb nJb bcJ,.slice bTm nTm bcM,.slice bSb nSb bcS,.slice bKp nKp bcK,.slice bLs nLs bcL,.slice bMs nMs bcG] 33)) w3):=E2.out.trans (b3.mono E2.out.size));(have B3:Hid (Below w.heap.size w w3):=B2.out.trans (b3.mono B2.out.size));(have x6:=(HS.out _ E3.out 6 _).1 rfl);(have y6:=(HS.out _ E3.out 6 _).2 rfl);clear b3 CTk x5 y5)
   | (go_at_call 29;refine (CJb.out _ B3.out).mono ?_;rintro e w4 ⟨rfl,b4⟩;(have E4:Hid (Below ((w.alloc (.cells #[.int .u64 (pos:Int),.int .u64 (done:Int),.int .u64 (made:Int),.slice aDe nDe acD,.slice aIn nIn acI,.slice aTk nTk acT,.slice aJb nJb acJ,.slice aTm nTm acM,.slice aSb nSb acS,.slice aKp nKp acK,.slice aLs nLs acL,.slice aMs nMs acG] 33)).alloc (.cells #[.int .u64 (pos:Int),.int .u64 (done:Int),.int .u64 (made:Int),.slice bDe nDe bcD,.slice bIn nIn bcI,.slice bTk nTk bcT,.slice bJb nJb bcJ,.slice bTm nTm bcM,.slice bSb nSb bcS,.slice bKp nKp bcK,.slice bLs nLs bcL,.slice bMs nMs bcG] 33)).heap.size ((w.alloc (.cells #[.int .u64 (pos:Int),.int .u64 (done:Int),.int .u64 (made:Int),.slice aDe nDe acD,.slice aIn nIn acI,.slice aTk nTk acT,.slice aJb nJb acJ,.slice aTm nTm acM,.slice aSb nSb acS,.slice aKp nKp acK,.slice aLs nLs acL,.slice aMs nMs acG] 33)).alloc (.cells #[.int .u64 (pos:Int),.int .u64 (done:Int),.int .u64 (made:Int),.slice bDe nDe bcD,.slice bIn nIn bcI,.slice bTk nTk bcT,.slice bJb nJb bcJ,.slice bTm nTm bcM,.slice bSb nSb bcS,.slice bKp nKp bcK,.slice bLs nLs bcL,.slice bMs nMs bcG] 33)) w4):=E3.out.trans (b4.mono E3.out.size));(have B4:Hid (Below w.heap.size w w4):=B3.out.trans (b4.mono B3.out.size));(have x7:=(HS.out _ E4.out 7 _).1 rfl);(have y7:=(HS.out _ E4.out 7 _).2 rfl);clear b4 CJb x6 y6)
   | (go_at_call 30;refine (CTm.out _ B4.out).mono ?_;rintro e w5 ⟨rfl,b5⟩;(have E5:Hid (Below ((w.alloc (.cells #[.int .u64 (pos:Int),.int .u64 (done:Int),.int .u64 (made:Int),.slice aDe nDe acD,.slice aIn nIn acI,.slice aTk nTk acT,.slice aJb nJb acJ,.slice aTm nTm acM,.slice aSb nSb acS,.slice aKp nKp acK,.slice aLs nLs acL,.slice aMs nMs acG] 33)).alloc (.cells #[.int .u64 (pos:Int),.int .u64 (done:Int),.int .u64 (made:Int),.slice bDe nDe bcD,.slice bIn nIn bcI,.slice bTk nTk bcT,.slice bJb nJb bcJ,.slice bTm nTm bcM,.slice bSb nSb bcS,.slice bKp nKp bcK,.slice bLs nLs bcL,.slice bMs nMs bcG] 33)).heap.size ((w.alloc (.cells #[.int .u64 (pos:Int),.int .u64 (done:Int),.int .u64 (made:Int),.slice aDe nDe acD,.slice aIn nIn acI,.slice aTk nTk acT,.slice aJb nJb acJ,.slice aTm nTm acM,.slice aSb nSb acS,.slice aKp nKp acK,.slice aLs nLs acL,.slice aMs nMs acG] 33)).alloc (.cells #[.int .u64 (pos:Int),.int .u64 (done:Int),.int .u64 (made:Int),.slice bDe nDe bcD,.slice bIn nIn bcI,.slice bTk nTk bcT,.slice bJb nJb bcJ,.slice bTm nTm bcM,.slice bSb nSb bcS,.slice bKp nKp bcK,.slice bLs nLs bcL,.slice bMs nMs bcG] 33)) w5):=E4.out.trans (b5.mono E4.out.size));(have B5:Hid (Below w.heap.size w w5):=B4.out.trans (b5.mono B4.out.size));(have x8:=(HS.out _ E5.out 8 _).1 rfl);(have y8:=(HS.out _ E5.out 8 _).2 rfl);clear b5 CTm x7 y7)
   | (go_at_call 31;refine (CSb.out _ B5.out).mono ?_;rintro e w6 ⟨rfl,b6⟩;(have E6:Hid (Below ((w.alloc (.cells #[.int .u64 (pos:Int),.int .u64 (done:Int),.int .u64 (made:Int),.slice aDe nDe acD,.slice aIn nIn acI,.slice aTk nTk acT,.slice aJb nJb acJ,.slice aTm nTm acM,.slice aSb nSb acS,.slice aKp nKp acK,.slice aLs nLs acL,.slice aMs nMs acG] 33)).alloc (.cells #[.int .u64 (pos:Int),.int .u64 (done:Int),.int .u64 (made:Int),.slice bDe nDe bcD,.slice bIn nIn bcI,.slice bTk nTk bcT,.slice bJb nJb bcJ,.slice bTm nTm bcM,.slice bSb nSb bcS,.slice bKp nKp bcK,.slice bLs nLs bcL,.slice bMs nMs bcG] 33)).heap.size ((w.alloc (.cells #[.int .u64 (pos:Int),.int .u64 (done:Int),.int .u64 (made:Int),.slice aDe nDe acD,.slice aIn nIn acI,.slice aTk nTk acT,.slice aJb nJb acJ,.slice aTm nTm acM,.slice aSb nSb acS,.slice aKp nKp acK,.slice aLs nLs acL,.slice aMs nMs acG] 33)).alloc (.cells #[.int .u64 (pos:Int),.int .u64 (done:Int),.int .u64 (made:Int),.slice bDe nDe bcD,.slice bIn nIn bcI,.slice bTk nTk bcT,.slice bJb nJb bcJ,.slice bTm nTm bcM,.slice bSb nSb bcS,.slice bKp nKp bcK,.slice bLs nLs bcL,.slice bMs nMs bcG] 33)) w6):=E5.out.trans (b6.mono E5.out.size));(have B6:Hid (Below w.heap.size w w6):=B5.out.trans (b6.mono B5.out.size));(have x9:=(HS.out _ E6.out 9 _).1 rfl);(have y9:=(HS.out _ E6.out 9 _).2 rfl);clear b6 CSb x8 y8)
   | (go_at_call 32;refine (CKp.out _ B6.out).mono ?_;rintro e w7 ⟨rfl,b7⟩;(have E7:Hid (Below ((w.alloc (.cells #[.int .u64 (pos:Int),.int .u64 (done:Int),.int .u64 (made:Int),.slice aDe nDe acD,.slice aIn nIn acI,.slice aTk nTk acT,.slice aJb nJb acJ,.slice aTm nTm acM,.slice aSb nSb acS,.slice aKp nKp acK,.slice aLs nLs acL,.slice aMs nMs acG] 33)).alloc (.cells #[.int .u64 (pos:Int),.int .u64 (done:Int),.int .u64 (made:Int),.slice bDe nDe bcD,.slice bIn nIn bcI,.slice bTk nTk bcT,.slice bJb nJb bcJ,.slice bTm nTm bcM,.slice bSb nSb bcS,.slice bKp nKp bcK,.slice bLs nLs bcL,.slice bMs nMs bcG] 33)).heap.size ((w.alloc (.cells #[.int .u64 (pos:Int),.int .u64 (done:Int),.int .u64 (made:Int),.slice aDe nDe acD,.slice aIn nIn acI,.slice aTk nTk acT,.slice aJb nJb acJ,.slice aTm nTm acM,.slice aSb nSb acS,.slice aKp nKp acK,.slice aLs nLs acL,.slice aMs nMs acG] 33)).alloc (.cells #[.int .u64 (pos:Int),.int .u64 (done:Int),.int .u64 (made:Int),.slice bDe nDe bcD,.slice bIn nIn bcI,.slice bTk nTk bcT,.slice bJb nJb bcJ,.slice bTm nTm bcM,.slice bSb nSb bcS,.slice bKp nKp bcK,.slice bLs nLs bcL,.slice bMs nMs bcG] 33)) w7):=E6.out.trans (b7.mono E6.out.size));(have B7:Hid (Below w.heap.size w w7):=B6.out.trans (b7.mono B6.out.size));(have x10:=(HS.out _ E7.out 10 _).1 rfl);(have y10:=(HS.out _ E7.out 10 _).2 rfl);clear b7 CKp x9 y9)
   | (go_at_call 33;refine (CLs.out _ B7.out).mono ?_;rintro e w8 ⟨rfl,b8⟩;(have E8:Hid (Below ((w.alloc (.cells #[.int .u64 (pos:Int),.int .u64 (done:Int),.int .u64 (made:Int),.slice aDe nDe acD,.slice aIn nIn acI,.slice aTk nTk acT,.slice aJb nJb acJ,.slice aTm nTm acM,.slice aSb nSb acS,.slice aKp nKp acK,.slice aLs nLs acL,.slice aMs nMs acG] 33)).alloc (.cells #[.int .u64 (pos:Int),.int .u64 (done:Int),.int .u64 (made:Int),.slice bDe nDe bcD,.slice bIn nIn bcI,.slice bTk nTk bcT,.slice bJb nJb bcJ,.slice bTm nTm bcM,.slice bSb nSb bcS,.slice bKp nKp bcK,.slice bLs nLs bcL,.slice bMs nMs bcG] 33)).heap.size ((w.alloc (.cells #[.int .u64 (pos:Int),.int .u64 (done:Int),.int .u64 (made:Int),.slice aDe nDe acD,.slice aIn nIn acI,.slice aTk nTk acT,.slice aJb nJb acJ,.slice aTm nTm acM,.slice aSb nSb acS,.slice aKp nKp acK,.slice aLs nLs acL,.slice aMs nMs acG] 33)).alloc (.cells #[.int .u64 (pos:Int),.int .u64 (done:Int),.int .u64 (made:Int),.slice bDe nDe bcD,.slice bIn nIn bcI,.slice bTk nTk bcT,.slice bJb nJb bcJ,.slice bTm nTm bcM,.slice bSb nSb bcS,.slice bKp nKp bcK,.slice bLs nLs bcL,.slice bMs nMs bcG] 33)) w8):=E7.out.trans (b8.mono E7.out.size));(have B8:Hid (Below w.heap.size w w8):=B7.out.trans (b8.mono B7.out.size));(have x11:=(HS.out _ E8.out 11 _).1 rfl);(have y11:=(HS.out _ E8.out 11 _).2 rfl);clear b8 CLs x10 y10)
   | (go_at_call 35;refine (CMs.out _ B8.out).mono ?_;rintro e w9 ⟨rfl,b9⟩;(have E9:Hid (Below ((w.alloc (.cells #[.int .u64 (pos:Int),.int .u64 (done:Int),.int .u64 (made:Int),.slice aDe nDe acD,.slice aIn nIn acI,.slice aTk nTk acT,.slice aJb nJb acJ,.slice aTm nTm acM,.slice aSb nSb acS,.slice aKp nKp acK,.slice aLs nLs acL,.slice aMs nMs acG] 33)).alloc (.cells #[.int .u64 (pos:Int),.int .u64 (done:Int),.int .u64 (made:Int),.slice bDe nDe bcD,.slice bIn nIn bcI,.slice bTk nTk bcT,.slice bJb nJb bcJ,.slice bTm nTm bcM,.slice bSb nSb bcS,.slice bKp nKp bcK,.slice bLs nLs bcL,.slice bMs nMs bcG] 33)).heap.size ((w.alloc (.cells #[.int .u64 (pos:Int),.int .u64 (done:Int),.int .u64 (made:Int),.slice aDe nDe acD,.slice aIn nIn acI,.slice aTk nTk acT,.slice aJb nJb acJ,.slice aTm nTm acM,.slice aSb nSb acS,.slice aKp nKp acK,.slice aLs nLs acL,.slice aMs nMs acG] 33)).alloc (.cells #[.int .u64 (pos:Int),.int .u64 (done:Int),.int .u64 (made:Int),.slice bDe nDe bcD,.slice bIn nIn bcI,.slice bTk nTk bcT,.slice bJb nJb bcJ,.slice bTm nTm bcM,.slice bSb nSb bcS,.slice bKp nKp bcK,.slice bLs nLs bcL,.slice bMs nMs bcG] 33)) w9):=E8.out.trans (b9.mono E8.out.size));(have B9:Hid (Below w.heap.size w w9):=B8.out.trans (b9.mono B8.out.size));clear b9 CMs x11 y11))
 go_ret
 exact ⟨rfl,B9.out⟩
theorem fSame_yes {w:World} {s t:St} (h:Sv w s) (k:Sv w t) (he:s.e=t.e) (hz:Sz s) (hzt:Sz t):Calls Tryz.prog 7 #[.agg s.c.toArray,.agg t.c.toArray] w fun e w'=>e=.returned (.bool true)∧Below w.heap.size w w':=by
 have e0:=congrArg St.pos he
 have e1:=congrArg St.done he
 have e2:=congrArg St.made he
 have eDe:=congrArg St.procs he
 have eIn:=congrArg St.insts he
 have eTk:=congrArg St.tokens he
 have eJb:=congrArg St.jobs he
 have eTm:=congrArg St.timers he
 have eSb:=congrArg St.subs he
 have eKp:=congrArg St.kept he
 have eLs:=congrArg St.listed he
 have eMs:=congrArg St.msgs he
 simp only [St.e] at e0 e1 e2 eDe eIn eTk eJb eTm eSb eKp eLs eMs
 have lDe:s.procs.length=t.procs.length:=by have:=congrArg List.length eDe;simpa using this
 have lIn:s.insts.length=t.insts.length:=by have:=congrArg List.length eIn;simpa using this
 have lTk:s.tokens.length=t.tokens.length:=by have:=congrArg List.length eTk;simpa using this
 have lJb:s.jobs.length=t.jobs.length:=by have:=congrArg List.length eJb;simpa using this
 have lTm:s.timers.length=t.timers.length:=by have:=congrArg List.length eTm;simpa using this
 have lSb:s.subs.length=t.subs.length:=by have:=congrArg List.length eSb;simpa using this
 have lKp:s.kept.length=t.kept.length:=by have:=congrArg List.length eKp;simpa using this
 have lLs:s.listed.length=t.listed.length:=by have:=congrArg List.length eLs;simpa using this
 have lMs:s.msgs.length=t.msgs.length:=by have:=congrArg List.length eMs;simpa using this
 obtain ⟨aDe,acD,haD,-⟩:=id h.rDe
 obtain ⟨bDe,bcD,hbD,-⟩:=id k.rDe
 obtain ⟨aIn,acI,haI,-⟩:=id h.rIn
 obtain ⟨bIn,bcI,hbI,-⟩:=id k.rIn
 obtain ⟨aTk,acT,haT,-⟩:=id h.rTk
 obtain ⟨bTk,bcT,hbT,-⟩:=id k.rTk
 obtain ⟨aJb,acJ,haJ,-⟩:=id h.rJb
 obtain ⟨bJb,bcJ,hbJ,-⟩:=id k.rJb
 obtain ⟨aTm,acM,haM,-⟩:=id h.rTm
 obtain ⟨bTm,bcM,hbM,-⟩:=id k.rTm
 obtain ⟨aSb,acS,haS,-⟩:=id h.rSb
 obtain ⟨bSb,bcS,hbS,-⟩:=id k.rSb
 obtain ⟨aKp,acK,haK,-⟩:=id h.rKp
 obtain ⟨bKp,bcK,hbK,-⟩:=id k.rKp
 obtain ⟨aLs,acL,haL,-⟩:=id h.rLs
 obtain ⟨bLs,bcL,hbL,-⟩:=id k.rLs
 obtain ⟨aMs,acG,haG,-⟩:=id h.rMs
 obtain ⟨bMs,bcG,hbG,-⟩:=id k.rMs
 have es:s.c.toArray=#[.int .u64 (s.pos:Int),.int .u64 (s.done:Int),.int .u64 (s.made:Int),.slice aDe s.procs.length acD,.slice aIn s.insts.length acI,.slice aTk s.tokens.length acT,.slice aJb s.jobs.length acJ,.slice aTm s.timers.length acM,.slice aSb s.subs.length acS,.slice aKp s.kept.length acK,.slice aLs s.listed.length acL,.slice aMs s.msgs.length acG]:=by simp only [St.c,haD,haI,haT,haJ,haM,haS,haK,haL,haG]
 have et:t.c.toArray=#[.int .u64 (s.pos:Int),.int .u64 (s.done:Int),.int .u64 (s.made:Int),.slice bDe s.procs.length bcD,.slice bIn s.insts.length bcI,.slice bTk s.tokens.length bcT,.slice bJb s.jobs.length bcJ,.slice bTm s.timers.length bcM,.slice bSb s.subs.length bcS,.slice bKp s.kept.length bcK,.slice bLs s.listed.length bcL,.slice bMs s.msgs.length bcG]:=by simp only [St.c,hbD,hbI,hbT,hbJ,hbM,hbS,hbK,hbL,hbG,lDe,lIn,lTk,lJb,lTm,lSb,lKp,lLs,lMs,e0,e1,e2]
 rw [es,et]
 refine fSame_core s.pos s.done s.made aDe bDe s.procs.length acD bcD aIn bIn s.insts.length acI bcI aTk bTk s.tokens.length acT bcT aJb bJb s.jobs.length acJ bcJ aTm bTm s.timers.length acM bcM aSb bSb s.subs.length acS bcS aKp bKp s.kept.length acK bcK aLs bLs s.listed.length acL bcL aMs bMs s.msgs.length acG bcG ?_ ?_ ?_ ?_ ?_ ?_ ?_ ?_ ?_
 · intro W hW
   have k1:=h.rDe
   have k2:=k.rDe
   rw [haD] at k1
   rw [hbD,← eDe] at k2
   exact (eqDe_yes (k1.up hW) (k2.up hW) (by have:=hz.nDe;omega)).mono fun e w' ⟨p,q⟩=>⟨p,bdN2 q⟩
 · intro W hW
   have k1:=h.rIn
   have k2:=k.rIn
   rw [haI] at k1
   rw [hbI] at k2
   rw [lIn]
   rw [lIn] at k1
   have:=eqfIn_yes (by rw [← lIn] at k1;exact k1.up hW) (k2.up hW) eIn (fun x hx=>⟨(h.iIn x hx).up hW,by have:=hz.mIn x hx;omega⟩) (fun x hx=>⟨(k.iIn x hx).up hW,by have:=hzt.mIn x hx;omega⟩) (by have:=hz.nIn;omega)
   rw [lIn] at this
   exact this
 · intro W hW
   have k1:=h.rTk
   have k2:=k.rTk
   rw [haT] at k1
   rw [hbT,← eTk] at k2
   exact (eqTk_yes (k1.up hW) (k2.up hW) (by have:=hz.nTk;omega)).mono fun e w' ⟨p,q⟩=>⟨p,bdN2 q⟩
 · intro W hW
   have k1:=h.rJb
   have k2:=k.rJb
   rw [haJ] at k1
   rw [hbJ,← eJb] at k2
   exact (eqJb_yes (k1.up hW) (k2.up hW) (by have:=hz.nJb;omega)).mono fun e w' ⟨p,q⟩=>⟨p,bdN2 q⟩
 · intro W hW
   have k1:=h.rTm
   have k2:=k.rTm
   rw [haM] at k1
   rw [hbM,← eTm] at k2
   exact (eqTm_yes (k1.up hW) (k2.up hW) (by have:=hz.nTm;omega)).mono fun e w' ⟨p,q⟩=>⟨p,bdN2 q⟩
 · intro W hW
   have k1:=h.rSb
   have k2:=k.rSb
   rw [haS] at k1
   rw [hbS,← eSb] at k2
   exact (eqSb_yes (k1.up hW) (k2.up hW) (by have:=hz.nSb;omega)).mono fun e w' ⟨p,q⟩=>⟨p,bdN2 q⟩
 · intro W hW
   have k1:=h.rKp
   have k2:=k.rKp
   rw [haK] at k1
   rw [hbK,← eKp] at k2
   exact (eqKp_yes (k1.up hW) (k2.up hW) (by have:=hz.nKp;omega)).mono fun e w' ⟨p,q⟩=>⟨p,bdN2 q⟩
 · intro W hW
   have k1:=h.rLs
   have k2:=k.rLs
   rw [haL] at k1
   rw [hbL] at k2
   rw [lLs]
   rw [lLs] at k1
   have:=eqfLs_yes (by rw [← lLs] at k1;exact k1.up hW) (k2.up hW) eLs (fun x hx=>⟨(h.iLs x hx).up hW,by have:=hz.mLs x hx;omega⟩) (fun x hx=>⟨(k.iLs x hx).up hW,by have:=hzt.mLs x hx;omega⟩) (by have:=hz.nLs;omega)
   rw [lLs] at this
   exact this
 · intro W hW
   have k1:=h.rMs
   have k2:=k.rMs
   rw [haG] at k1
   rw [hbG] at k2
   rw [lMs]
   rw [lMs] at k1
   have:=eqfMs_yes (by rw [← lMs] at k1;exact k1.up hW) (k2.up hW) eMs (fun x hx=>⟨(h.iMs x hx).up hW,by have:=hz.mMs x hx;omega,(h.qMs x hx).up hW,by have:=hz.kMs x hx;omega⟩) (fun x hx=>⟨(k.iMs x hx).up hW,by have:=hzt.mMs x hx;omega,(k.qMs x hx).up hW,by have:=hzt.kMs x hx;omega⟩) (by have:=hz.nMs;omega)
   rw [lMs] at this
   exact this

theorem Sn.to_e {n:Nat} {s:St} (h:Sn n s):Sn n s.e:=by
 refine ⟨h.nDe,?_,h.nTk,h.nJb,h.nTm,h.nSb,h.nKp,?_,?_,?_,?_,?_,?_⟩
 · simp only [St.e,List.length_map];exact h.nIn
 · simp only [St.e,List.length_map];exact h.nLs
 · simp only [St.e,List.length_map];exact h.nMs
 · intro x hx
   obtain ⟨y,hy,rfl⟩:=List.mem_map.1 hx
   exact h.mIn y hy
 · intro x hx
   obtain ⟨y,hy,rfl⟩:=List.mem_map.1 hx
   exact h.mLs y hy
 · intro x hx
   obtain ⟨y,hy,rfl⟩:=List.mem_map.1 hx
   exact h.mMs y hy
 · intro x hx
   obtain ⟨y,hy,rfl⟩:=List.mem_map.1 hx
   exact h.kMs y hy
theorem Lp.up {w W1 wr wr':World} {sb off i:Nat} {v:Value} {l:List Rc} {a t:St} (h:Lp w W1 sb v l a off i wr t) (hb:Below wr.heap.size wr wr'):Lp w W1 sb v l a off i wr' t:=⟨h.box.up hb,h.sv.up hb,h.is,h.ch.trans (Ch.of_below hb),bel_of h.bel hb nlr⟩
theorem Lp.old {w w5 W1 wr:World} {sb off i:Nat} {v:Value} {l:List Rc} {a t:St} (h:Lp w W1 sb v l a off i wr t) (hs:w5.heap.size=sb) (h1:Below w5.heap.size w5 W1):Below w5.heap.size w5 wr:=h1.trans (h.ch.below h1.size (fun k hk e=>by omega))
theorem Bc.new (w:World) (s:St):Bc (w.alloc (.cells s.c.toArray 33)) w.heap.size s:=heap_alloc_new w _
end Go.Proofs.YtmfempdcpoeicaaGreat.f13
