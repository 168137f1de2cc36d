/-
  Package fold's Apply, of every record.
-/
import Derived.Test.YtmfempdcpoeicaaGreatF13Ap2
import Derived.Test.YtmfempdcpoeicaaGreatGDep
import Derived.Test.YtmfempdcpoeicaaGreatGJob
import Derived.Test.YtmfempdcpoeicaaGreatGStb
import Derived.Test.YtmfempdcpoeicaaGreatF13Vch
import Derived.Test.YtmfempdcpoeicaaGreatGTim
import Derived.Test.YtmfempdcpoeicaaGreatGSub
import Derived.Test.YtmfempdcpoeicaaGreatF13Sop
import Derived.Test.YtmfempdcpoeicaaGreatGGon
import Derived.Test.YtmfempdcpoeicaaGreatGKep
import Derived.Test.YtmfempdcpoeicaaGreatGLst
import Derived.Test.YtmfempdcpoeicaaGreatGMsg
import Derived.Test.YtmfempdcpoeicaaGreatGExp
import Derived.Test.YtmfempdcpoeicaaGreatGMis
import Derived.Test.YtmfempdcpoeicaaGreatGShn
set_option maxRecDepth 100000
namespace Go.Proofs.YtmfempdcpoeicaaGreat.f13
open Go.RowKit Go.Shelf Go.Sort
open Go.Lib hiding intOf

structure Sy (s:St):Prop where
 nDe:(s.procs.length+1)*32≤211106232528000
 nIn:(s.insts.length+1)*48≤211106232528000
 nTk:(s.tokens.length+1)*56≤211106232528000
 nJb:(s.jobs.length+1)*64≤211106232528000
 nTm:(s.timers.length+1)*24≤211106232528000
 nSb:(s.subs.length+1)*64≤211106232528000
 nKp:(s.kept.length+1)*24≤211106232528000
 nLs:(s.listed.length+1)*88≤211106232528000
 nMs:(s.msgs.length+1)*112≤211106232528000
 mIn:∀x∈s.insts,x.vars.length*48≤211106232528000
 mLs:∀x∈s.listed,x.vars.length*48≤211106232528000
 mMs:∀x∈s.msgs,x.vars.length*48≤211106232528000
 kMs:∀x∈s.msgs,(x.its.length+1)*8≤211106232528000
theorem Sy.sz {s:St} (h:Sy s):Sz s:=⟨by have:=h.nDe;omega,by have:=h.nIn;omega,by have:=h.nTk;omega,by have:=h.nJb;omega,by have:=h.nTm;omega,by have:=h.nSb;omega,by have:=h.nKp;omega,by have:=h.nLs;omega,by have:=h.nMs;omega,h.mIn,h.mLs,h.mMs,fun x hx=>by have:=h.kMs x hx;omega⟩
theorem Sy.of_e {s:St} (h:Sy s.e):Sy s:=by
 refine ⟨h.nDe,by simpa [St.e] using h.nIn,h.nTk,h.nJb,h.nTm,h.nSb,h.nKp,by simpa [St.e] using h.nLs,by simpa [St.e] using h.nMs,fun x hx=>?_,fun x hx=>?_,fun x hx=>?_,fun x hx=>?_⟩
 · exact h.mIn x.e (List.mem_map_of_mem hx)
 · exact h.mLs x.e (List.mem_map_of_mem hx)
 · exact h.mMs x.e (List.mem_map_of_mem hx)
 · exact h.kMs x.e (List.mem_map_of_mem hx)
theorem Sy.e {s:St} (h:Sy s):Sy s.e:=by
 refine ⟨h.nDe,by simpa [St.e] using h.nIn,h.nTk,h.nJb,h.nTm,h.nSb,h.nKp,by simpa [St.e] using h.nLs,by simpa [St.e] using h.nMs,fun x hx=>?_,fun x hx=>?_,fun x hx=>?_,fun x hx=>?_⟩
 · obtain ⟨y,hy,rfl⟩:=List.mem_map.1 hx;exact h.mIn y hy
 · obtain ⟨y,hy,rfl⟩:=List.mem_map.1 hx;exact h.mLs y hy
 · obtain ⟨y,hy,rfl⟩:=List.mem_map.1 hx;exact h.mMs y hy
 · obtain ⟨y,hy,rfl⟩:=List.mem_map.1 hx;exact h.kMs y hy
theorem Sy.up {s t:St} {p d:Nat} (h:Sy s) (he:t.e={ s.e with pos:=p,done:=d }):Sy t:=by
 refine Sy.of_e ?_
 rw [he]
 have:=h.e
 exact ⟨this.nDe,this.nIn,this.nTk,this.nJb,this.nTm,this.nSb,this.nKp,this.nLs,this.nMs,this.mIn,this.mLs,this.mMs,this.kMs⟩
theorem Kr.up {s t:St} {p d:Nat} (h:Kr s) (he:t.e={ s.e with pos:=p,done:=d }):Kr t:=by
 refine Kr.of_e ?_
 rw [he]
 have:=h.e
 exact ⟨this.kTk,this.kJb,this.kTm,this.kSb⟩
def eff (s:St) (r:Rc):St:=if r.kd=1 then eDeployed s r else if r.kd=2 then eBegan s r else if r.kd=3 then eEntered s r else if r.kd=4 then eLeft s r else if r.kd=6 then eJob s r else if r.kd=7 then eTaken s r else if r.kd=8 then eBack s r else if r.kd=9 then eVars s r else if r.kd=10 then eTimer s r else if r.kd=11 then eSub s r else if r.kd=12 then eOpen s r else if r.kd=13 then eStuck s r else if r.kd=14 then eFreed s r else if r.kd=15 then eGone s r else if r.kd=16 then eGone s r else if r.kd=17 then eKept s r else if r.kd=18 then eListed s r else if r.kd=19 then ePublished s r else if r.kd=20 then eExpired s r else if r.kd=21 then eSending s r else if r.kd=22 then eMatched s r else if r.kd=23 then eMissed s r else s
def apl (s:St) (ps:Nat) (r:Rc):St:=if r.cl=2 then eff { s with pos:=ps,done:=max s.done r.fr } r else if r.cl=3 then { s with pos:=ps,done:=max s.done r.fr } else { s with pos:=ps }
theorem apply1 {w:World} {s:St} {r:Rc} {ps:Nat} (h:Sv w s) (hy:Sy s) (_hk:Kr s) (hr:Rr 4 Vr.c w r.vv r.v) (_hvn:r.v.length*48≤211106232528000) (kc:r.cl=2) (kd:r.kd=1):Calls Tryz.prog 5 #[.agg s.c.toArray,.int .u64 (ps:Int),.agg r.cs.toArray] w (Apd w (eDeployed { s.e with pos:=ps,done:=max s.done r.fr } r)):=by
 refine Apply_event 41 eDeployed h hy.sz hr ⟨kc,by rw [kd];omega⟩ (by rw [kd];kernel_rfl) (by rw [kd];kernel_rfl) (enters_of Tryz.func41 (by kernel_rfl) rfl) (fun B W sb t hS hB he hr9=>?_) rfl
 have ht:=hy.up he
 exact deployed_any hS hB ht.nDe hr9
theorem apply2 {w:World} {s:St} {r:Rc} {ps:Nat} (h:Sv w s) (hy:Sy s) (_hk:Kr s) (hr:Rr 4 Vr.c w r.vv r.v) (_hvn:r.v.length*48≤211106232528000) (kc:r.cl=2) (kd:r.kd=2):Calls Tryz.prog 5 #[.agg s.c.toArray,.int .u64 (ps:Int),.agg r.cs.toArray] w (Apd w (eBegan { s.e with pos:=ps,done:=max s.done r.fr } r)):=by
 refine Apply_event 42 eBegan h hy.sz hr ⟨kc,by rw [kd];omega⟩ (by rw [kd];kernel_rfl) (by rw [kd];kernel_rfl) (enters_of Tryz.func42 (by kernel_rfl) rfl) (fun B W sb t hS hB he hr9=>?_) rfl
 have ht:=hy.up he
 have hvn:=_hvn
 exact began_any hS hB ht.nIn hr9 hvn
theorem apply3 {w:World} {s:St} {r:Rc} {ps:Nat} (h:Sv w s) (hy:Sy s) (_hk:Kr s) (hr:Rr 4 Vr.c w r.vv r.v) (_hvn:r.v.length*48≤211106232528000) (kc:r.cl=2) (kd:r.kd=3):Calls Tryz.prog 5 #[.agg s.c.toArray,.int .u64 (ps:Int),.agg r.cs.toArray] w (Apd w (eEntered { s.e with pos:=ps,done:=max s.done r.fr } r)):=by
 refine Apply_event 43 eEntered h hy.sz hr ⟨kc,by rw [kd];omega⟩ (by rw [kd];kernel_rfl) (by rw [kd];kernel_rfl) (enters_of Tryz.func43 (by kernel_rfl) rfl) (fun B W sb t hS hB he hr9=>?_) rfl
 have ht:=hy.up he
 exact entered_any hS hB ht.nTk hr9
theorem apply4 {w:World} {s:St} {r:Rc} {ps:Nat} (h:Sv w s) (hy:Sy s) (_hk:Kr s) (hr:Rr 4 Vr.c w r.vv r.v) (_hvn:r.v.length*48≤211106232528000) (kc:r.cl=2) (kd:r.kd=4):Calls Tryz.prog 5 #[.agg s.c.toArray,.int .u64 (ps:Int),.agg r.cs.toArray] w (Apd w (eLeft { s.e with pos:=ps,done:=max s.done r.fr } r)):=by
 refine Apply_event 44 eLeft h hy.sz hr ⟨kc,by rw [kd];omega⟩ (by rw [kd];kernel_rfl) (by rw [kd];kernel_rfl) (enters_of Tryz.func44 (by kernel_rfl) rfl) (fun B W sb t hS hB he hr9=>?_) rfl
 have ht:=hy.up he
 exact left_any hS hB (by have:=ht.nTk;omega) (by have:=ht.nJb;omega) (by have:=ht.nTm;omega) (by have:=ht.nSb;omega) hr9
theorem apply6 {w:World} {s:St} {r:Rc} {ps:Nat} (h:Sv w s) (hy:Sy s) (_hk:Kr s) (hr:Rr 4 Vr.c w r.vv r.v) (_hvn:r.v.length*48≤211106232528000) (kc:r.cl=2) (kd:r.kd=6):Calls Tryz.prog 5 #[.agg s.c.toArray,.int .u64 (ps:Int),.agg r.cs.toArray] w (Apd w (eJob { s.e with pos:=ps,done:=max s.done r.fr } r)):=by
 refine Apply_event 45 eJob h hy.sz hr ⟨kc,by rw [kd];omega⟩ (by rw [kd];kernel_rfl) (by rw [kd];kernel_rfl) (enters_of Tryz.func45 (by kernel_rfl) rfl) (fun B W sb t hS hB he hr9=>?_) rfl
 have ht:=hy.up he
 exact jobMade_any hS hB ht.nJb hr9
theorem apply7 {w:World} {s:St} {r:Rc} {ps:Nat} (h:Sv w s) (hy:Sy s) (_hk:Kr s) (hr:Rr 4 Vr.c w r.vv r.v) (_hvn:r.v.length*48≤211106232528000) (kc:r.cl=2) (kd:r.kd=7):Calls Tryz.prog 5 #[.agg s.c.toArray,.int .u64 (ps:Int),.agg r.cs.toArray] w (Apd w (eTaken { s.e with pos:=ps,done:=max s.done r.fr } r)):=by
 refine Apply_event 46 eTaken h hy.sz hr ⟨kc,by rw [kd];omega⟩ (by rw [kd];kernel_rfl) (by rw [kd];kernel_rfl) (enters_of Tryz.func46 (by kernel_rfl) rfl) (fun B W sb t hS hB he hr9=>?_) rfl
 have ht:=hy.up he
 exact jobTaken_any hS hB (by have:=ht.nJb;omega) hr9
theorem apply8 {w:World} {s:St} {r:Rc} {ps:Nat} (h:Sv w s) (hy:Sy s) (_hk:Kr s) (hr:Rr 4 Vr.c w r.vv r.v) (_hvn:r.v.length*48≤211106232528000) (kc:r.cl=2) (kd:r.kd=8):Calls Tryz.prog 5 #[.agg s.c.toArray,.int .u64 (ps:Int),.agg r.cs.toArray] w (Apd w (eBack { s.e with pos:=ps,done:=max s.done r.fr } r)):=by
 refine Apply_event 47 eBack h hy.sz hr ⟨kc,by rw [kd];omega⟩ (by rw [kd];kernel_rfl) (by rw [kd];kernel_rfl) (enters_of Tryz.func47 (by kernel_rfl) rfl) (fun B W sb t hS hB he hr9=>?_) rfl
 have ht:=hy.up he
 exact jobBack_any hS hB (by have:=ht.nJb;omega) hr9
theorem apply9 {w:World} {s:St} {r:Rc} {ps:Nat} (h:Sv w s) (hy:Sy s) (_hk:Kr s) (hr:Rr 4 Vr.c w r.vv r.v) (_hvn:r.v.length*48≤211106232528000) (kc:r.cl=2) (kd:r.kd=9):Calls Tryz.prog 5 #[.agg s.c.toArray,.int .u64 (ps:Int),.agg r.cs.toArray] w (Apd w (eVars { s.e with pos:=ps,done:=max s.done r.fr } r)):=by
 refine Apply_event 48 eVars h hy.sz hr ⟨kc,by rw [kd];omega⟩ (by rw [kd];kernel_rfl) (by rw [kd];kernel_rfl) (enters_of Tryz.func48 (by kernel_rfl) rfl) (fun B W sb t hS hB he hr9=>?_) rfl
 have ht:=hy.up he
 have hvn:=_hvn
 exact varsChanged_any hS hB (by have:=ht.nIn;omega) hr9 hvn
theorem apply10 {w:World} {s:St} {r:Rc} {ps:Nat} (h:Sv w s) (hy:Sy s) (_hk:Kr s) (hr:Rr 4 Vr.c w r.vv r.v) (_hvn:r.v.length*48≤211106232528000) (kc:r.cl=2) (kd:r.kd=10):Calls Tryz.prog 5 #[.agg s.c.toArray,.int .u64 (ps:Int),.agg r.cs.toArray] w (Apd w (eTimer { s.e with pos:=ps,done:=max s.done r.fr } r)):=by
 refine Apply_event 49 eTimer h hy.sz hr ⟨kc,by rw [kd];omega⟩ (by rw [kd];kernel_rfl) (by rw [kd];kernel_rfl) (enters_of Tryz.func49 (by kernel_rfl) rfl) (fun B W sb t hS hB he hr9=>?_) rfl
 have ht:=hy.up he
 exact timerSet_any hS hB ht.nTm hr9
theorem apply11 {w:World} {s:St} {r:Rc} {ps:Nat} (h:Sv w s) (hy:Sy s) (_hk:Kr s) (hr:Rr 4 Vr.c w r.vv r.v) (_hvn:r.v.length*48≤211106232528000) (kc:r.cl=2) (kd:r.kd=11):Calls Tryz.prog 5 #[.agg s.c.toArray,.int .u64 (ps:Int),.agg r.cs.toArray] w (Apd w (eSub { s.e with pos:=ps,done:=max s.done r.fr } r)):=by
 refine Apply_event 50 eSub h hy.sz hr ⟨kc,by rw [kd];omega⟩ (by rw [kd];kernel_rfl) (by rw [kd];kernel_rfl) (enters_of Tryz.func50 (by kernel_rfl) rfl) (fun B W sb t hS hB he hr9=>?_) rfl
 have ht:=hy.up he
 exact subSet_any hS hB ht.nSb hr9
theorem apply12 {w:World} {s:St} {r:Rc} {ps:Nat} (h:Sv w s) (hy:Sy s) (_hk:Kr s) (hr:Rr 4 Vr.c w r.vv r.v) (_hvn:r.v.length*48≤211106232528000) (kc:r.cl=2) (kd:r.kd=12):Calls Tryz.prog 5 #[.agg s.c.toArray,.int .u64 (ps:Int),.agg r.cs.toArray] w (Apd w (eOpen { s.e with pos:=ps,done:=max s.done r.fr } r)):=by
 refine Apply_event 51 eOpen h hy.sz hr ⟨kc,by rw [kd];omega⟩ (by rw [kd];kernel_rfl) (by rw [kd];kernel_rfl) (enters_of Tryz.func51 (by kernel_rfl) rfl) (fun B W sb t hS hB he hr9=>?_) rfl
 have ht:=hy.up he
 exact subOpened_any hS hB (by have:=ht.nSb;omega) hr9
theorem apply13 {w:World} {s:St} {r:Rc} {ps:Nat} (h:Sv w s) (hy:Sy s) (_hk:Kr s) (hr:Rr 4 Vr.c w r.vv r.v) (_hvn:r.v.length*48≤211106232528000) (kc:r.cl=2) (kd:r.kd=13):Calls Tryz.prog 5 #[.agg s.c.toArray,.int .u64 (ps:Int),.agg r.cs.toArray] w (Apd w (eStuck { s.e with pos:=ps,done:=max s.done r.fr } r)):=by
 refine Apply_event 52 eStuck h hy.sz hr ⟨kc,by rw [kd];omega⟩ (by rw [kd];kernel_rfl) (by rw [kd];kernel_rfl) (enters_of Tryz.func52 (by kernel_rfl) rfl) (fun B W sb t hS hB he hr9=>?_) rfl
 have ht:=hy.up he
 exact stuck_any hS hB (by have:=ht.nTk;omega) hr9
theorem apply14 {w:World} {s:St} {r:Rc} {ps:Nat} (h:Sv w s) (hy:Sy s) (_hk:Kr s) (hr:Rr 4 Vr.c w r.vv r.v) (_hvn:r.v.length*48≤211106232528000) (kc:r.cl=2) (kd:r.kd=14):Calls Tryz.prog 5 #[.agg s.c.toArray,.int .u64 (ps:Int),.agg r.cs.toArray] w (Apd w (eFreed { s.e with pos:=ps,done:=max s.done r.fr } r)):=by
 refine Apply_event 53 eFreed h hy.sz hr ⟨kc,by rw [kd];omega⟩ (by rw [kd];kernel_rfl) (by rw [kd];kernel_rfl) (enters_of Tryz.func53 (by kernel_rfl) rfl) (fun B W sb t hS hB he hr9=>?_) rfl
 have ht:=hy.up he
 exact freed_any hS hB (by have:=ht.nTk;omega) hr9
theorem apply15 {w:World} {s:St} {r:Rc} {ps:Nat} (h:Sv w s) (hy:Sy s) (_hk:Kr s) (hr:Rr 4 Vr.c w r.vv r.v) (_hvn:r.v.length*48≤211106232528000) (kc:r.cl=2) (kd:r.kd=15):Calls Tryz.prog 5 #[.agg s.c.toArray,.int .u64 (ps:Int),.agg r.cs.toArray] w (Apd w (eGone { s.e with pos:=ps,done:=max s.done r.fr } r)):=by
 refine Apply_event 54 eGone h hy.sz hr ⟨kc,by rw [kd];omega⟩ (by rw [kd];kernel_rfl) (by rw [kd];kernel_rfl) (enters_of Tryz.func54 (by kernel_rfl) rfl) (fun B W sb t hS hB he hr9=>?_) rfl
 have ht:=hy.up he
 have hkt:=_hk.up he
 exact instGone_any hS hB hkt (by have:=ht.nIn;omega) (by have:=ht.nTk;omega) (by have:=ht.nJb;omega) (by have:=ht.nTm;omega) (by have:=ht.nSb;omega) hr9
theorem apply16 {w:World} {s:St} {r:Rc} {ps:Nat} (h:Sv w s) (hy:Sy s) (_hk:Kr s) (hr:Rr 4 Vr.c w r.vv r.v) (_hvn:r.v.length*48≤211106232528000) (kc:r.cl=2) (kd:r.kd=16):Calls Tryz.prog 5 #[.agg s.c.toArray,.int .u64 (ps:Int),.agg r.cs.toArray] w (Apd w (eGone { s.e with pos:=ps,done:=max s.done r.fr } r)):=by
 refine Apply_event 54 eGone h hy.sz hr ⟨kc,by rw [kd];omega⟩ (by rw [kd];kernel_rfl) (by rw [kd];kernel_rfl) (enters_of Tryz.func54 (by kernel_rfl) rfl) (fun B W sb t hS hB he hr9=>?_) rfl
 have ht:=hy.up he
 have hkt:=_hk.up he
 exact instGone_any hS hB hkt (by have:=ht.nIn;omega) (by have:=ht.nTk;omega) (by have:=ht.nJb;omega) (by have:=ht.nTm;omega) (by have:=ht.nSb;omega) hr9
theorem apply17 {w:World} {s:St} {r:Rc} {ps:Nat} (h:Sv w s) (hy:Sy s) (_hk:Kr s) (hr:Rr 4 Vr.c w r.vv r.v) (_hvn:r.v.length*48≤211106232528000) (kc:r.cl=2) (kd:r.kd=17):Calls Tryz.prog 5 #[.agg s.c.toArray,.int .u64 (ps:Int),.agg r.cs.toArray] w (Apd w (eKept { s.e with pos:=ps,done:=max s.done r.fr } r)):=by
 refine Apply_event 55 eKept h hy.sz hr ⟨kc,by rw [kd];omega⟩ (by rw [kd];kernel_rfl) (by rw [kd];kernel_rfl) (enters_of Tryz.func55 (by kernel_rfl) rfl) (fun B W sb t hS hB he hr9=>?_) rfl
 have ht:=hy.up he
 exact kept_any hS hB ht.nKp hr9
theorem apply18 {w:World} {s:St} {r:Rc} {ps:Nat} (h:Sv w s) (hy:Sy s) (_hk:Kr s) (hr:Rr 4 Vr.c w r.vv r.v) (_hvn:r.v.length*48≤211106232528000) (kc:r.cl=2) (kd:r.kd=18):Calls Tryz.prog 5 #[.agg s.c.toArray,.int .u64 (ps:Int),.agg r.cs.toArray] w (Apd w (eListed { s.e with pos:=ps,done:=max s.done r.fr } r)):=by
 refine Apply_event 56 eListed h hy.sz hr ⟨kc,by rw [kd];omega⟩ (by rw [kd];kernel_rfl) (by rw [kd];kernel_rfl) (enters_of Tryz.func56 (by kernel_rfl) rfl) (fun B W sb t hS hB he hr9=>?_) rfl
 have ht:=hy.up he
 exact listed_any hS hB ht.nLs hr9
theorem apply19 {w:World} {s:St} {r:Rc} {ps:Nat} (h:Sv w s) (hy:Sy s) (_hk:Kr s) (hr:Rr 4 Vr.c w r.vv r.v) (_hvn:r.v.length*48≤211106232528000) (kc:r.cl=2) (kd:r.kd=19):Calls Tryz.prog 5 #[.agg s.c.toArray,.int .u64 (ps:Int),.agg r.cs.toArray] w (Apd w (ePublished { s.e with pos:=ps,done:=max s.done r.fr } r)):=by
 refine Apply_event 57 ePublished h hy.sz hr ⟨kc,by rw [kd];omega⟩ (by rw [kd];kernel_rfl) (by rw [kd];kernel_rfl) (enters_of Tryz.func57 (by kernel_rfl) rfl) (fun B W sb t hS hB he hr9=>?_) rfl
 have ht:=hy.up he
 have hvn:=_hvn
 exact published_any hS hB ht.nMs hr9 hvn
theorem apply20 {w:World} {s:St} {r:Rc} {ps:Nat} (h:Sv w s) (hy:Sy s) (_hk:Kr s) (hr:Rr 4 Vr.c w r.vv r.v) (_hvn:r.v.length*48≤211106232528000) (kc:r.cl=2) (kd:r.kd=20):Calls Tryz.prog 5 #[.agg s.c.toArray,.int .u64 (ps:Int),.agg r.cs.toArray] w (Apd w (eExpired { s.e with pos:=ps,done:=max s.done r.fr } r)):=by
 refine Apply_event 58 eExpired h hy.sz hr ⟨kc,by rw [kd];omega⟩ (by rw [kd];kernel_rfl) (by rw [kd];kernel_rfl) (enters_of Tryz.func58 (by kernel_rfl) rfl) (fun B W sb t hS hB he hr9=>?_) rfl
 have ht:=hy.up he
 exact expired_any hS hB (by have:=ht.nMs;omega) hr9
theorem apply21 {w:World} {s:St} {r:Rc} {ps:Nat} (h:Sv w s) (hy:Sy s) (_hk:Kr s) (hr:Rr 4 Vr.c w r.vv r.v) (_hvn:r.v.length*48≤211106232528000) (kc:r.cl=2) (kd:r.kd=21):Calls Tryz.prog 5 #[.agg s.c.toArray,.int .u64 (ps:Int),.agg r.cs.toArray] w (Apd w (eSending { s.e with pos:=ps,done:=max s.done r.fr } r)):=by
 refine Apply_event 59 eSending h hy.sz hr ⟨kc,by rw [kd];omega⟩ (by rw [kd];kernel_rfl) (by rw [kd];kernel_rfl) (enters_of Tryz.func59 (by kernel_rfl) rfl) (fun B W sb t hS hB he hr9=>?_) rfl
 have ht:=hy.up he
 exact sending_any hS hB (by have:=ht.nLs;omega) (by have:=ht.nMs;omega) ht.kMs ht.mMs hr9
theorem apply22 {w:World} {s:St} {r:Rc} {ps:Nat} (h:Sv w s) (hy:Sy s) (_hk:Kr s) (hr:Rr 4 Vr.c w r.vv r.v) (_hvn:r.v.length*48≤211106232528000) (kc:r.cl=2) (kd:r.kd=22):Calls Tryz.prog 5 #[.agg s.c.toArray,.int .u64 (ps:Int),.agg r.cs.toArray] w (Apd w (eMatched { s.e with pos:=ps,done:=max s.done r.fr } r)):=by
 refine Apply_event 60 eMatched h hy.sz hr ⟨kc,by rw [kd];omega⟩ (by rw [kd];kernel_rfl) (by rw [kd];kernel_rfl) (enters_of Tryz.func60 (by kernel_rfl) rfl) (fun B W sb t hS hB he hr9=>?_) rfl
 have ht:=hy.up he
 exact matched_any hS hB (by have:=ht.nLs;omega) hr9
theorem apply23 {w:World} {s:St} {r:Rc} {ps:Nat} (h:Sv w s) (hy:Sy s) (_hk:Kr s) (hr:Rr 4 Vr.c w r.vv r.v) (_hvn:r.v.length*48≤211106232528000) (kc:r.cl=2) (kd:r.kd=23):Calls Tryz.prog 5 #[.agg s.c.toArray,.int .u64 (ps:Int),.agg r.cs.toArray] w (Apd w (eMissed { s.e with pos:=ps,done:=max s.done r.fr } r)):=by
 refine Apply_event 61 eMissed h hy.sz hr ⟨kc,by rw [kd];omega⟩ (by rw [kd];kernel_rfl) (by rw [kd];kernel_rfl) (enters_of Tryz.func61 (by kernel_rfl) rfl) (fun B W sb t hS hB he hr9=>?_) rfl
 have ht:=hy.up he
 exact missed_any hS hB (by have:=ht.nLs;omega) (by have:=ht.nMs;omega) (fun x hx=>by have:=ht.kMs x hx;omega) hr9

theorem Apply_any {w:World} {s:St} {r:Rc} {ps:Nat} (h:Sv w s) (hy:Sy s) (hk:Kr s) (hr:Rr 4 Vr.c w r.vv r.v) (hvn:r.v.length*48≤211106232528000) (ho:r.ok):Calls Tryz.prog 5 #[.agg s.c.toArray,.int .u64 (ps:Int),.agg r.cs.toArray] w (Apd w (apl s.e ps r)):=by
 unfold apl
 by_cases c2:r.cl=2
 · rw [if_pos c2]
   unfold eff
   by_cases k1:r.kd=1
   · rw [if_pos k1]
     exact apply1 h hy hk hr hvn c2 k1
   by_cases k2:r.kd=2
   · rw [if_neg k1,if_pos k2]
     exact apply2 h hy hk hr hvn c2 k2
   by_cases k3:r.kd=3
   · rw [if_neg k1,if_neg k2,if_pos k3]
     exact apply3 h hy hk hr hvn c2 k3
   by_cases k4:r.kd=4
   · rw [if_neg k1,if_neg k2,if_neg k3,if_pos k4]
     exact apply4 h hy hk hr hvn c2 k4
   by_cases k6:r.kd=6
   · rw [if_neg k1,if_neg k2,if_neg k3,if_neg k4,if_pos k6]
     exact apply6 h hy hk hr hvn c2 k6
   by_cases k7:r.kd=7
   · rw [if_neg k1,if_neg k2,if_neg k3,if_neg k4,if_neg k6,if_pos k7]
     exact apply7 h hy hk hr hvn c2 k7
   by_cases k8:r.kd=8
   · rw [if_neg k1,if_neg k2,if_neg k3,if_neg k4,if_neg k6,if_neg k7,if_pos k8]
     exact apply8 h hy hk hr hvn c2 k8
   by_cases k9:r.kd=9
   · rw [if_neg k1,if_neg k2,if_neg k3,if_neg k4,if_neg k6,if_neg k7,if_neg k8,if_pos k9]
     exact apply9 h hy hk hr hvn c2 k9
   by_cases k10:r.kd=10
   · rw [if_neg k1,if_neg k2,if_neg k3,if_neg k4,if_neg k6,if_neg k7,if_neg k8,if_neg k9,if_pos k10]
     exact apply10 h hy hk hr hvn c2 k10
   by_cases k11:r.kd=11
   · rw [if_neg k1,if_neg k2,if_neg k3,if_neg k4,if_neg k6,if_neg k7,if_neg k8,if_neg k9,if_neg k10,if_pos k11]
     exact apply11 h hy hk hr hvn c2 k11
   by_cases k12:r.kd=12
   · rw [if_neg k1,if_neg k2,if_neg k3,if_neg k4,if_neg k6,if_neg k7,if_neg k8,if_neg k9,if_neg k10,if_neg k11,if_pos k12]
     exact apply12 h hy hk hr hvn c2 k12
   by_cases k13:r.kd=13
   · rw [if_neg k1,if_neg k2,if_neg k3,if_neg k4,if_neg k6,if_neg k7,if_neg k8,if_neg k9,if_neg k10,if_neg k11,if_neg k12,if_pos k13]
     exact apply13 h hy hk hr hvn c2 k13
   by_cases k14:r.kd=14
   · rw [if_neg k1,if_neg k2,if_neg k3,if_neg k4,if_neg k6,if_neg k7,if_neg k8,if_neg k9,if_neg k10,if_neg k11,if_neg k12,if_neg k13,if_pos k14]
     exact apply14 h hy hk hr hvn c2 k14
   by_cases k15:r.kd=15
   · rw [if_neg k1,if_neg k2,if_neg k3,if_neg k4,if_neg k6,if_neg k7,if_neg k8,if_neg k9,if_neg k10,if_neg k11,if_neg k12,if_neg k13,if_neg k14,if_pos k15]
     exact apply15 h hy hk hr hvn c2 k15
   by_cases k16:r.kd=16
   · rw [if_neg k1,if_neg k2,if_neg k3,if_neg k4,if_neg k6,if_neg k7,if_neg k8,if_neg k9,if_neg k10,if_neg k11,if_neg k12,if_neg k13,if_neg k14,if_neg k15,if_pos k16]
     exact apply16 h hy hk hr hvn c2 k16
   by_cases k17:r.kd=17
   · rw [if_neg k1,if_neg k2,if_neg k3,if_neg k4,if_neg k6,if_neg k7,if_neg k8,if_neg k9,if_neg k10,if_neg k11,if_neg k12,if_neg k13,if_neg k14,if_neg k15,if_neg k16,if_pos k17]
     exact apply17 h hy hk hr hvn c2 k17
   by_cases k18:r.kd=18
   · rw [if_neg k1,if_neg k2,if_neg k3,if_neg k4,if_neg k6,if_neg k7,if_neg k8,if_neg k9,if_neg k10,if_neg k11,if_neg k12,if_neg k13,if_neg k14,if_neg k15,if_neg k16,if_neg k17,if_pos k18]
     exact apply18 h hy hk hr hvn c2 k18
   by_cases k19:r.kd=19
   · rw [if_neg k1,if_neg k2,if_neg k3,if_neg k4,if_neg k6,if_neg k7,if_neg k8,if_neg k9,if_neg k10,if_neg k11,if_neg k12,if_neg k13,if_neg k14,if_neg k15,if_neg k16,if_neg k17,if_neg k18,if_pos k19]
     exact apply19 h hy hk hr hvn c2 k19
   by_cases k20:r.kd=20
   · rw [if_neg k1,if_neg k2,if_neg k3,if_neg k4,if_neg k6,if_neg k7,if_neg k8,if_neg k9,if_neg k10,if_neg k11,if_neg k12,if_neg k13,if_neg k14,if_neg k15,if_neg k16,if_neg k17,if_neg k18,if_neg k19,if_pos k20]
     exact apply20 h hy hk hr hvn c2 k20
   by_cases k21:r.kd=21
   · rw [if_neg k1,if_neg k2,if_neg k3,if_neg k4,if_neg k6,if_neg k7,if_neg k8,if_neg k9,if_neg k10,if_neg k11,if_neg k12,if_neg k13,if_neg k14,if_neg k15,if_neg k16,if_neg k17,if_neg k18,if_neg k19,if_neg k20,if_pos k21]
     exact apply21 h hy hk hr hvn c2 k21
   by_cases k22:r.kd=22
   · rw [if_neg k1,if_neg k2,if_neg k3,if_neg k4,if_neg k6,if_neg k7,if_neg k8,if_neg k9,if_neg k10,if_neg k11,if_neg k12,if_neg k13,if_neg k14,if_neg k15,if_neg k16,if_neg k17,if_neg k18,if_neg k19,if_neg k20,if_neg k21,if_pos k22]
     exact apply22 h hy hk hr hvn c2 k22
   by_cases k23:r.kd=23
   · rw [if_neg k1,if_neg k2,if_neg k3,if_neg k4,if_neg k6,if_neg k7,if_neg k8,if_neg k9,if_neg k10,if_neg k11,if_neg k12,if_neg k13,if_neg k14,if_neg k15,if_neg k16,if_neg k17,if_neg k18,if_neg k19,if_neg k20,if_neg k21,if_neg k22,if_pos k23]
     exact apply23 h hy hk hr hvn c2 k23
   rw [if_neg k1,if_neg k2,if_neg k3,if_neg k4,if_neg k6,if_neg k7,if_neg k8,if_neg k9,if_neg k10,if_neg k11,if_neg k12,if_neg k13,if_neg k14,if_neg k15,if_neg k16,if_neg k17,if_neg k18,if_neg k19,if_neg k20,if_neg k21,if_neg k22,if_neg k23]
   exact Apply_none h hy.sz hr ⟨c2,ho.1⟩ (by simp [kinds,k1,k2,k3,k4,k6,k7,k8,k9,k10,k11,k12,k13,k14,k15,k16,k17,k18,k19,k20,k21,k22,k23]) rfl
 · rw [if_neg c2]
   by_cases c3:r.cl=3
   · rw [if_pos c3]
     exact Apply_refusal h hy.sz hr c3 rfl
   · rw [if_neg c3]
     exact Apply_other h hy.sz hr ⟨c2,c3⟩ rfl
end Go.Proofs.YtmfempdcpoeicaaGreat.f13
