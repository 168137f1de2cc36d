/-
  The document's Same.
-/
import Derived.Test.YtmfempdcpoeicaaGreatF13Base
import Derived.Test.YtmfempdcpoeicaaGreatF13Cl
set_option maxHeartbeats 32000000
set_option maxRecDepth 100000
namespace Go.Proofs.YtmfempdcpoeicaaGreat.f13
open Go.RowKit Go.Shelf Go.Sort
open Go.Lib hiding intOf

theorem S_toList (l:List UInt8):(S l).toList=l:=by simp [S]
theorem below_drewN {B:Nat} {w wr:World} (h:Below B w wr) (n:Nat):Below B w (wr.drewN n):=⟨h.os,h.tape,h.output,h.size,h.block⟩
theorem dN {w wr:World} (h:∃m,wr=w.drewN m):Below w.heap.size w wr:=by obtain ⟨m,rfl⟩:=h;exact below_drewN brf m
theorem dM {w wr:World} (h:∃m,wr=w.drewN m) (n:Nat):∃m,wr.drewN n=w.drewN m:=by obtain ⟨m,rfl⟩:=h;exact ⟨m+n,World.drewN_drewN w m n⟩
theorem xA_ways {x y:Vr} (h:x≠y):((x.1.toList=y.1.toList)=False)∨((x.1.toList=y.1.toList)=True∧(x.2.1=y.2.1)=False)∨((x.1.toList=y.1.toList)=True∧(x.2.1=y.2.1)=True∧(x.2.2.1=y.2.2.1)=False)∨((x.1.toList=y.1.toList)=True∧(x.2.1=y.2.1)=True∧(x.2.2.1=y.2.2.1)=True∧((S x.2.2.2).toList=(S y.2.2.2).toList)=False):=by
 obtain ⟨a,b,c,d⟩:=x
 obtain ⟨a',b',c',d'⟩:=y
 simp only
 by_cases h1:a.toList=a'.toList
 · by_cases h2:b=b'
   · by_cases h3:c=c'
     · refine .inr (.inr (.inr ⟨eq_true h1,eq_true h2,eq_true h3,eq_false (fun e=>h ?_)⟩))
       rw [S_toList,S_toList] at e
       rw [show a=a' from key_ext (by simpa [Lib.toList_data] using h1),h2,h3,e]
     · exact .inr (.inr (.inl ⟨eq_true h1,eq_true h2,eq_false h3⟩))
   · exact .inr (.inl ⟨eq_true h1,eq_false h2⟩)
 · exact .inl (eq_false h1)
theorem Same9_q {w : World} {v u : Value} {l m : List Vr} (hv : Rr 4 Vr.c w v l) (hu : Rr 4 Vr.c w u m) (hn : l.length ≤ 4611686018427387904) (hm : m.length ≤ 4611686018427387904) :
   Calls Tryz.prog 37 #[v,u] w fun e w'=>e=.returned (.bool (decide (l=m)))∧∃m,w'=w.drewN m:=by
 have HV:Hid (Rr 4 Vr.c w v l):=hv
 have HU:Hid (Rr 4 Vr.c w u m):=hu
 obtain ⟨a,cap,rfl,-⟩:=hv
 obtain ⟨a2,cap2,rfl,-⟩:=hu
 by_cases hl:l.length=m.length
 · have hl':((l.length:Int) != (m.length:Int))=false:=by rw [hl];simp
   have HL:Hid (l.length=m.length):=hl
   clear hl
   go_enter Tryz.func37,Tryz.ntmps37
   go_wp2
   go_loopw [5] (fun v5 wr=>∃i:Nat,v5=.int .i64 (i:Int)∧i≤l.length∧Hid (l.take i=m.take i)∧Hid (∃m,wr=w.drewN m)) (fun v5 _=>l.length-(intOf v5).toNat)
   case atStart=>exact ⟨0,rfl,Nat.zero_le _,by show _=_;simp,⟨0,rfl⟩⟩
   case round =>
     obtain ⟨i,rfl,hi,HT,HW⟩:=hrel
     by_cases hil:i<l.length
     · have hil':(i:Int)<(l.length:Int):=by omega
       have hi0:(0:Int)≤(i:Int):=by omega
       have him:i<m.length:=by have:=HL.out;omega
       have him':(i:Int)<(m.length:Int):=by omega
       obtain ⟨b',off,cap',hsl,-,hbl,hcell⟩:=HV.out.at hil
       cases hsl
       obtain ⟨b2,off2,cap2',hsl2,-,hbl2,hcell2⟩:=HU.out.at him
       cases hsl2
       have m0:=hcell wr (dN HW.out) i hil 0 _ rfl
       have m1:=hcell wr (dN HW.out) i hil 1 _ rfl
       have m2:=hcell wr (dN HW.out) i hil 2 _ rfl
       have m3:=hcell wr (dN HW.out) i hil 3 _ rfl
       simp only [Nat.add_zero] at m0
       have n0:=hcell2 wr (dN HW.out) i him 0 _ rfl
       have n1:=hcell2 wr (dN HW.out) i him 1 _ rfl
       have n2:=hcell2 wr (dN HW.out) i him 2 _ rfl
       have n3:=hcell2 wr (dN HW.out) i him 3 _ rfl
       simp only [Nat.add_zero] at n0
       have HN:Hid (l[i]=m[i]→l.take (i+1)=m.take (i+1)):=fun e=>by rw [List.take_succ_eq_append_getElem hil,List.take_succ_eq_append_getElem him,HT.out,e]
       have HF:Hid (l[i]≠m[i]→l≠m):=fun h e=>h (by subst e;rfl)
       clear hcell hcell2
       obtain ⟨x,hx⟩:∃x,l[i]=x:=⟨_,rfl⟩
       obtain ⟨y,hy⟩:∃y,m[i]=y:=⟨_,rfl⟩
       rw [hx] at m0 m1 m2 m3 HN HF
       rw [hy] at n0 n1 n2 n3 HN HF
       clear hx hy
       by_cases hxy:x=y
       · subst hxy
         obtain ⟨nm,x1,x2,x3⟩:=x
         simp only at m0 m1 m2 m3 n0 n1 n2 n3
         go_wp2
         go_quiet (fail)
         go_wp2
         go_roundw
         case rel =>
           exact ⟨i+1,by simp,by omega,HN.out (by first | rfl | trivial),dM HW.out _⟩
         case measure=>simp [intOf];omega
       · have hd:=xA_ways hxy
         have HE:Hid (decide (l=m)=false):=decide_eq_false (HF.out hxy)
         obtain ⟨nm,x1,x2,x3⟩:=x
         obtain ⟨nm',y1,y2,y3⟩:=y
         simp only at m0 m1 m2 m3 n0 n1 n2 n3 hd
         clear hxy HN HF
         rcases hd with d1 | ⟨d1,d2⟩ | ⟨d1,d2,d3⟩ | ⟨d1,d2,d3,d4⟩
         all_goals
           go_wp2
           go_quiet (fail)
           go_wp2
           go_ret
           exact ⟨by rw [HE.out];rfl,dM HW.out _⟩
     · have hil':¬(i:Int)<(l.length:Int):=by omega
       have HE:Hid (decide (l=m)=true):=decide_eq_true (by have:=HT.out;have hl:=HL.out;rwa [List.take_of_length_le (by omega),List.take_of_length_le (by omega)] at this)
       go_wp2
       go_ret
       exact ⟨by rw [HE.out];rfl,HW.out⟩
 · have hl':((l.length:Int) != (m.length:Int))=true:=bne_iff_ne.2 (by omega)
   have HE:Hid (decide (l=m)=false):=decide_eq_false (fun e=>hl (by rw [e]))
   go_enter Tryz.func37,Tryz.ntmps37
   go_wp2
   go_ret
   exact ⟨by rw [HE.out];rfl,⟨0,rfl⟩⟩

theorem Same9_any {w : World} {v u : Value} {l m : List Vr} (hv : Rr 4 Vr.c w v l) (hu : Rr 4 Vr.c w u m) (hn : l.length ≤ 4611686018427387904) (hm : m.length ≤ 4611686018427387904) :
   Calls Tryz.prog 37 #[v,u] w fun e w'=>e=.returned (.bool (decide (l=m)))∧Below w.heap.size w w' :=
 (Same9_q hv hu hn hm).mono fun _ _ ⟨h1,h2⟩=>⟨h1,dN h2⟩

def EwDe (w:World) (pa qa:Option Addr) (n:Nat):Prop:=∀i:Nat,i<n→∃(x:De) (b off b' off':Nat),pa=some ⟨b,off,none⟩∧qa=some ⟨b',off',none⟩∧(∀W,Below w.heap.size w W→(W.cell? ⟨b,off+i*2+0,none⟩=some (.string (S x.id))∧W.cell? ⟨b,off+i*2+1,none⟩=some (.string (S x.bs)))∧(W.cell? ⟨b',off'+i*2+0,none⟩=some (.string (S x.id))∧W.cell? ⟨b',off'+i*2+1,none⟩=some (.string (S x.bs))))
theorem EwDe.of {w:World} {s t:St} {pa qa:Option Addr} {pc qc:Nat} (hs:Sv w s) (ht:Sv w t) (he:s.e=t.e) (_hz:Sz s) (hp:s.vDe=.slice pa s.procs.length pc) (hq:t.vDe=.slice qa t.procs.length qc):EwDe w pa qa s.procs.length:=by
 intro i hi
 have gDe:t.procs=s.procs:=by have:=congrArg St.procs he;exact this.symm
 have lDe:t.procs.length=s.procs.length:=by rw [gDe]
 have HP:=hs.rDe
 have HQ:=ht.rDe
 rw [hp] at HP
 rw [hq] at HQ
 have hi':i<t.procs.length:=by rw [lDe];exact hi
 obtain ⟨b,off,c1,v1,-,-,h1⟩:=HP.at hi
 obtain ⟨b',off',c2,v2,-,-,h2⟩:=HQ.at hi'
 injection v1 with v1
 injection v2 with v2
 have ei:t.procs[i]=s.procs[i]:=by simp only [gDe]
 exact ⟨s.procs[i],b,off,b',off',v1,v2,fun W hW=>⟨⟨h1 W hW i hi 0 _ rfl,h1 W hW i hi 1 _ rfl⟩,(h2 W hW i hi' 0 _ rfl).trans (by rw [ei]),(h2 W hW i hi' 1 _ rfl).trans (by rw [ei])⟩⟩

def EwIn (w:World) (pa qa:Option Addr) (n:Nat):Prop:=∀i:Nat,i<n→∃(x:In) (pvv qvv:Value) (b off b' off':Nat),pa=some ⟨b,off,none⟩∧qa=some ⟨b',off',none⟩∧(∀W,Below w.heap.size w W→(W.cell? ⟨b,off+i*3+0,none⟩=some (.int .u64 (x.key:Int))∧W.cell? ⟨b,off+i*3+1,none⟩=some (.string (S x.id))∧W.cell? ⟨b,off+i*3+2,none⟩=some (pvv))∧(W.cell? ⟨b',off'+i*3+0,none⟩=some (.int .u64 (x.key:Int))∧W.cell? ⟨b',off'+i*3+1,none⟩=some (.string (S x.id))∧W.cell? ⟨b',off'+i*3+2,none⟩=some (qvv)))∧Rr 4 Vr.c w pvv x.vars∧Rr 4 Vr.c w qvv x.vars∧x.vars.length*48≤211106232528000
theorem EwIn.of {w:World} {s t:St} {pa qa:Option Addr} {pc qc:Nat} (hs:Sv w s) (ht:Sv w t) (he:s.e=t.e) (hz:Sz s) (hp:s.vIn=.slice pa s.insts.length pc) (hq:t.vIn=.slice qa t.insts.length qc):EwIn w pa qa s.insts.length:=by
 intro i hi
 have gIn:t.insts.map In.e=s.insts.map In.e:=by have:=congrArg St.insts he;exact this.symm
 have lIn:t.insts.length=s.insts.length:=by have:=congrArg List.length gIn;simpa using this
 have HP:=hs.rIn
 have HQ:=ht.rIn
 rw [hp] at HP
 rw [hq] at HQ
 have hi':i<t.insts.length:=by rw [lIn];exact hi
 obtain ⟨b,off,c1,v1,-,-,h1⟩:=HP.at hi
 obtain ⟨b',off',c2,v2,-,-,h2⟩:=HQ.at hi'
 injection v1 with v1
 injection v2 with v2
 have ei:(In.e t.insts[i])=(In.e s.insts[i]):=by
   have:=congrArg (fun l=>l[i]?) gIn
   simp only [List.getElem?_map,List.getElem?_eq_getElem hi,List.getElem?_eq_getElem hi',Option.map_some] at this
   exact Option.some.inj this
 have f_key:t.insts[i].key=s.insts[i].key:=by have:=congrArg In.key ei;exact this
 have f_id:t.insts[i].id=s.insts[i].id:=by have:=congrArg In.id ei;exact this
 have f_vars:t.insts[i].vars=s.insts[i].vars:=by have:=congrArg In.vars ei;exact this
 exact ⟨s.insts[i],s.insts[i].vv,t.insts[i].vv,b,off,b',off',v1,v2,fun W hW=>⟨⟨h1 W hW i hi 0 _ rfl,h1 W hW i hi 1 _ rfl,h1 W hW i hi 2 _ rfl⟩,(h2 W hW i hi' 0 _ rfl).trans (by rw [f_key]),(h2 W hW i hi' 1 _ rfl).trans (by rw [f_id]),h2 W hW i hi' 2 _ rfl⟩,hs.iIn _ (List.getElem_mem hi),(f_vars ▸ ht.iIn _ (List.getElem_mem hi')),hz.mIn _ (List.getElem_mem hi)⟩

def EwTk (w:World) (pa qa:Option Addr) (n:Nat):Prop:=∀i:Nat,i<n→∃(x:Tk) (b off b' off':Nat),pa=some ⟨b,off,none⟩∧qa=some ⟨b',off',none⟩∧(∀W,Below w.heap.size w W→(W.cell? ⟨b,off+i*6+0,none⟩=some (.int .u64 (x.key:Int))∧W.cell? ⟨b,off+i*6+1,none⟩=some (.int .u64 (x.inst:Int))∧W.cell? ⟨b,off+i*6+2,none⟩=some (.int .u64 (x.scope:Int))∧W.cell? ⟨b,off+i*6+3,none⟩=some (.int .i64 x.node)∧W.cell? ⟨b,off+i*6+4,none⟩=some (.int .i64 x.flow)∧W.cell? ⟨b,off+i*6+5,none⟩=some (.string (S x.stuck)))∧(W.cell? ⟨b',off'+i*6+0,none⟩=some (.int .u64 (x.key:Int))∧W.cell? ⟨b',off'+i*6+1,none⟩=some (.int .u64 (x.inst:Int))∧W.cell? ⟨b',off'+i*6+2,none⟩=some (.int .u64 (x.scope:Int))∧W.cell? ⟨b',off'+i*6+3,none⟩=some (.int .i64 x.node)∧W.cell? ⟨b',off'+i*6+4,none⟩=some (.int .i64 x.flow)∧W.cell? ⟨b',off'+i*6+5,none⟩=some (.string (S x.stuck))))
theorem EwTk.of {w:World} {s t:St} {pa qa:Option Addr} {pc qc:Nat} (hs:Sv w s) (ht:Sv w t) (he:s.e=t.e) (_hz:Sz s) (hp:s.vTk=.slice pa s.tokens.length pc) (hq:t.vTk=.slice qa t.tokens.length qc):EwTk w pa qa s.tokens.length:=by
 intro i hi
 have gTk:t.tokens=s.tokens:=by have:=congrArg St.tokens he;exact this.symm
 have lTk:t.tokens.length=s.tokens.length:=by rw [gTk]
 have HP:=hs.rTk
 have HQ:=ht.rTk
 rw [hp] at HP
 rw [hq] at HQ
 have hi':i<t.tokens.length:=by rw [lTk];exact hi
 obtain ⟨b,off,c1,v1,-,-,h1⟩:=HP.at hi
 obtain ⟨b',off',c2,v2,-,-,h2⟩:=HQ.at hi'
 injection v1 with v1
 injection v2 with v2
 have ei:t.tokens[i]=s.tokens[i]:=by simp only [gTk]
 exact ⟨s.tokens[i],b,off,b',off',v1,v2,fun W hW=>⟨⟨h1 W hW i hi 0 _ rfl,h1 W hW i hi 1 _ rfl,h1 W hW i hi 2 _ rfl,h1 W hW i hi 3 _ rfl,h1 W hW i hi 4 _ rfl,h1 W hW i hi 5 _ rfl⟩,(h2 W hW i hi' 0 _ rfl).trans (by rw [ei]),(h2 W hW i hi' 1 _ rfl).trans (by rw [ei]),(h2 W hW i hi' 2 _ rfl).trans (by rw [ei]),(h2 W hW i hi' 3 _ rfl).trans (by rw [ei]),(h2 W hW i hi' 4 _ rfl).trans (by rw [ei]),(h2 W hW i hi' 5 _ rfl).trans (by rw [ei])⟩⟩

def EwJb (w:World) (pa qa:Option Addr) (n:Nat):Prop:=∀i:Nat,i<n→∃(x:Jb) (b off b' off':Nat),pa=some ⟨b,off,none⟩∧qa=some ⟨b',off',none⟩∧(∀W,Below w.heap.size w W→(W.cell? ⟨b,off+i*6+0,none⟩=some (.int .u64 (x.key:Int))∧W.cell? ⟨b,off+i*6+1,none⟩=some (.int .u64 (x.token:Int))∧W.cell? ⟨b,off+i*6+2,none⟩=some (.string (S x.typ))∧W.cell? ⟨b,off+i*6+3,none⟩=some (.int .i64 x.retr)∧W.cell? ⟨b,off+i*6+4,none⟩=some (.string (S x.wkr))∧W.cell? ⟨b,off+i*6+5,none⟩=some (.int .i64 x.unt))∧(W.cell? ⟨b',off'+i*6+0,none⟩=some (.int .u64 (x.key:Int))∧W.cell? ⟨b',off'+i*6+1,none⟩=some (.int .u64 (x.token:Int))∧W.cell? ⟨b',off'+i*6+2,none⟩=some (.string (S x.typ))∧W.cell? ⟨b',off'+i*6+3,none⟩=some (.int .i64 x.retr)∧W.cell? ⟨b',off'+i*6+4,none⟩=some (.string (S x.wkr))∧W.cell? ⟨b',off'+i*6+5,none⟩=some (.int .i64 x.unt)))
theorem EwJb.of {w:World} {s t:St} {pa qa:Option Addr} {pc qc:Nat} (hs:Sv w s) (ht:Sv w t) (he:s.e=t.e) (_hz:Sz s) (hp:s.vJb=.slice pa s.jobs.length pc) (hq:t.vJb=.slice qa t.jobs.length qc):EwJb w pa qa s.jobs.length:=by
 intro i hi
 have gJb:t.jobs=s.jobs:=by have:=congrArg St.jobs he;exact this.symm
 have lJb:t.jobs.length=s.jobs.length:=by rw [gJb]
 have HP:=hs.rJb
 have HQ:=ht.rJb
 rw [hp] at HP
 rw [hq] at HQ
 have hi':i<t.jobs.length:=by rw [lJb];exact hi
 obtain ⟨b,off,c1,v1,-,-,h1⟩:=HP.at hi
 obtain ⟨b',off',c2,v2,-,-,h2⟩:=HQ.at hi'
 injection v1 with v1
 injection v2 with v2
 have ei:t.jobs[i]=s.jobs[i]:=by simp only [gJb]
 exact ⟨s.jobs[i],b,off,b',off',v1,v2,fun W hW=>⟨⟨h1 W hW i hi 0 _ rfl,h1 W hW i hi 1 _ rfl,h1 W hW i hi 2 _ rfl,h1 W hW i hi 3 _ rfl,h1 W hW i hi 4 _ rfl,h1 W hW i hi 5 _ rfl⟩,(h2 W hW i hi' 0 _ rfl).trans (by rw [ei]),(h2 W hW i hi' 1 _ rfl).trans (by rw [ei]),(h2 W hW i hi' 2 _ rfl).trans (by rw [ei]),(h2 W hW i hi' 3 _ rfl).trans (by rw [ei]),(h2 W hW i hi' 4 _ rfl).trans (by rw [ei]),(h2 W hW i hi' 5 _ rfl).trans (by rw [ei])⟩⟩

def EwTm (w:World) (pa qa:Option Addr) (n:Nat):Prop:=∀i:Nat,i<n→∃(x:Tm) (b off b' off':Nat),pa=some ⟨b,off,none⟩∧qa=some ⟨b',off',none⟩∧(∀W,Below w.heap.size w W→(W.cell? ⟨b,off+i*3+0,none⟩=some (.int .u64 (x.token:Int))∧W.cell? ⟨b,off+i*3+1,none⟩=some (.int .i64 x.node)∧W.cell? ⟨b,off+i*3+2,none⟩=some (.int .i64 x.at_))∧(W.cell? ⟨b',off'+i*3+0,none⟩=some (.int .u64 (x.token:Int))∧W.cell? ⟨b',off'+i*3+1,none⟩=some (.int .i64 x.node)∧W.cell? ⟨b',off'+i*3+2,none⟩=some (.int .i64 x.at_)))
theorem EwTm.of {w:World} {s t:St} {pa qa:Option Addr} {pc qc:Nat} (hs:Sv w s) (ht:Sv w t) (he:s.e=t.e) (_hz:Sz s) (hp:s.vTm=.slice pa s.timers.length pc) (hq:t.vTm=.slice qa t.timers.length qc):EwTm w pa qa s.timers.length:=by
 intro i hi
 have gTm:t.timers=s.timers:=by have:=congrArg St.timers he;exact this.symm
 have lTm:t.timers.length=s.timers.length:=by rw [gTm]
 have HP:=hs.rTm
 have HQ:=ht.rTm
 rw [hp] at HP
 rw [hq] at HQ
 have hi':i<t.timers.length:=by rw [lTm];exact hi
 obtain ⟨b,off,c1,v1,-,-,h1⟩:=HP.at hi
 obtain ⟨b',off',c2,v2,-,-,h2⟩:=HQ.at hi'
 injection v1 with v1
 injection v2 with v2
 have ei:t.timers[i]=s.timers[i]:=by simp only [gTm]
 exact ⟨s.timers[i],b,off,b',off',v1,v2,fun W hW=>⟨⟨h1 W hW i hi 0 _ rfl,h1 W hW i hi 1 _ rfl,h1 W hW i hi 2 _ rfl⟩,(h2 W hW i hi' 0 _ rfl).trans (by rw [ei]),(h2 W hW i hi' 1 _ rfl).trans (by rw [ei]),(h2 W hW i hi' 2 _ rfl).trans (by rw [ei])⟩⟩

def EwSb (w:World) (pa qa:Option Addr) (n:Nat):Prop:=∀i:Nat,i<n→∃(x:Sb) (b off b' off':Nat),pa=some ⟨b,off,none⟩∧qa=some ⟨b',off',none⟩∧(∀W,Below w.heap.size w W→(W.cell? ⟨b,off+i*6+0,none⟩=some (.int .u64 (x.token:Int))∧W.cell? ⟨b,off+i*6+1,none⟩=some (.int .u64 (x.inst:Int))∧W.cell? ⟨b,off+i*6+2,none⟩=some (.int .i64 x.node)∧W.cell? ⟨b,off+i*6+3,none⟩=some (.string (S x.name))∧W.cell? ⟨b,off+i*6+4,none⟩=some (.string (S x.key))∧W.cell? ⟨b,off+i*6+5,none⟩=some (.bool x.opn))∧(W.cell? ⟨b',off'+i*6+0,none⟩=some (.int .u64 (x.token:Int))∧W.cell? ⟨b',off'+i*6+1,none⟩=some (.int .u64 (x.inst:Int))∧W.cell? ⟨b',off'+i*6+2,none⟩=some (.int .i64 x.node)∧W.cell? ⟨b',off'+i*6+3,none⟩=some (.string (S x.name))∧W.cell? ⟨b',off'+i*6+4,none⟩=some (.string (S x.key))∧W.cell? ⟨b',off'+i*6+5,none⟩=some (.bool x.opn)))
theorem EwSb.of {w:World} {s t:St} {pa qa:Option Addr} {pc qc:Nat} (hs:Sv w s) (ht:Sv w t) (he:s.e=t.e) (_hz:Sz s) (hp:s.vSb=.slice pa s.subs.length pc) (hq:t.vSb=.slice qa t.subs.length qc):EwSb w pa qa s.subs.length:=by
 intro i hi
 have gSb:t.subs=s.subs:=by have:=congrArg St.subs he;exact this.symm
 have lSb:t.subs.length=s.subs.length:=by rw [gSb]
 have HP:=hs.rSb
 have HQ:=ht.rSb
 rw [hp] at HP
 rw [hq] at HQ
 have hi':i<t.subs.length:=by rw [lSb];exact hi
 obtain ⟨b,off,c1,v1,-,-,h1⟩:=HP.at hi
 obtain ⟨b',off',c2,v2,-,-,h2⟩:=HQ.at hi'
 injection v1 with v1
 injection v2 with v2
 have ei:t.subs[i]=s.subs[i]:=by simp only [gSb]
 exact ⟨s.subs[i],b,off,b',off',v1,v2,fun W hW=>⟨⟨h1 W hW i hi 0 _ rfl,h1 W hW i hi 1 _ rfl,h1 W hW i hi 2 _ rfl,h1 W hW i hi 3 _ rfl,h1 W hW i hi 4 _ rfl,h1 W hW i hi 5 _ rfl⟩,(h2 W hW i hi' 0 _ rfl).trans (by rw [ei]),(h2 W hW i hi' 1 _ rfl).trans (by rw [ei]),(h2 W hW i hi' 2 _ rfl).trans (by rw [ei]),(h2 W hW i hi' 3 _ rfl).trans (by rw [ei]),(h2 W hW i hi' 4 _ rfl).trans (by rw [ei]),(h2 W hW i hi' 5 _ rfl).trans (by rw [ei])⟩⟩

def EwKp (w:World) (pa qa:Option Addr) (n:Nat):Prop:=∀i:Nat,i<n→∃(x:Kp) (b off b' off':Nat),pa=some ⟨b,off,none⟩∧qa=some ⟨b',off',none⟩∧(∀W,Below w.heap.size w W→(W.cell? ⟨b,off+i*3+0,none⟩=some (.int .u64 (x.token:Int))∧W.cell? ⟨b,off+i*3+1,none⟩=some (.int .u64 (x.msg:Int))∧W.cell? ⟨b,off+i*3+2,none⟩=some (.int .i64 x.node))∧(W.cell? ⟨b',off'+i*3+0,none⟩=some (.int .u64 (x.token:Int))∧W.cell? ⟨b',off'+i*3+1,none⟩=some (.int .u64 (x.msg:Int))∧W.cell? ⟨b',off'+i*3+2,none⟩=some (.int .i64 x.node)))
theorem EwKp.of {w:World} {s t:St} {pa qa:Option Addr} {pc qc:Nat} (hs:Sv w s) (ht:Sv w t) (he:s.e=t.e) (_hz:Sz s) (hp:s.vKp=.slice pa s.kept.length pc) (hq:t.vKp=.slice qa t.kept.length qc):EwKp w pa qa s.kept.length:=by
 intro i hi
 have gKp:t.kept=s.kept:=by have:=congrArg St.kept he;exact this.symm
 have lKp:t.kept.length=s.kept.length:=by rw [gKp]
 have HP:=hs.rKp
 have HQ:=ht.rKp
 rw [hp] at HP
 rw [hq] at HQ
 have hi':i<t.kept.length:=by rw [lKp];exact hi
 obtain ⟨b,off,c1,v1,-,-,h1⟩:=HP.at hi
 obtain ⟨b',off',c2,v2,-,-,h2⟩:=HQ.at hi'
 injection v1 with v1
 injection v2 with v2
 have ei:t.kept[i]=s.kept[i]:=by simp only [gKp]
 exact ⟨s.kept[i],b,off,b',off',v1,v2,fun W hW=>⟨⟨h1 W hW i hi 0 _ rfl,h1 W hW i hi 1 _ rfl,h1 W hW i hi 2 _ rfl⟩,(h2 W hW i hi' 0 _ rfl).trans (by rw [ei]),(h2 W hW i hi' 1 _ rfl).trans (by rw [ei]),(h2 W hW i hi' 2 _ rfl).trans (by rw [ei])⟩⟩

def EwLs (w:World) (pa qa:Option Addr) (n:Nat):Prop:=∀i:Nat,i<n→∃(x:Ls) (pvv qvv:Value) (b off b' off':Nat),pa=some ⟨b,off,none⟩∧qa=some ⟨b',off',none⟩∧(∀W,Below w.heap.size w W→(W.cell? ⟨b,off+i*7+0,none⟩=some (.int .u64 (x.token:Int))∧W.cell? ⟨b,off+i*7+1,none⟩=some (.int .u64 (x.inst:Int))∧W.cell? ⟨b,off+i*7+2,none⟩=some (.int .i64 x.node)∧W.cell? ⟨b,off+i*7+3,none⟩=some (.string (S x.name))∧W.cell? ⟨b,off+i*7+4,none⟩=some (.string (S x.key))∧W.cell? ⟨b,off+i*7+5,none⟩=some (.int .u64 (x.msg:Int))∧W.cell? ⟨b,off+i*7+6,none⟩=some (pvv))∧(W.cell? ⟨b',off'+i*7+0,none⟩=some (.int .u64 (x.token:Int))∧W.cell? ⟨b',off'+i*7+1,none⟩=some (.int .u64 (x.inst:Int))∧W.cell? ⟨b',off'+i*7+2,none⟩=some (.int .i64 x.node)∧W.cell? ⟨b',off'+i*7+3,none⟩=some (.string (S x.name))∧W.cell? ⟨b',off'+i*7+4,none⟩=some (.string (S x.key))∧W.cell? ⟨b',off'+i*7+5,none⟩=some (.int .u64 (x.msg:Int))∧W.cell? ⟨b',off'+i*7+6,none⟩=some (qvv)))∧Rr 4 Vr.c w pvv x.vars∧Rr 4 Vr.c w qvv x.vars∧x.vars.length*48≤211106232528000
theorem EwLs.of {w:World} {s t:St} {pa qa:Option Addr} {pc qc:Nat} (hs:Sv w s) (ht:Sv w t) (he:s.e=t.e) (hz:Sz s) (hp:s.vLs=.slice pa s.listed.length pc) (hq:t.vLs=.slice qa t.listed.length qc):EwLs w pa qa s.listed.length:=by
 intro i hi
 have gLs:t.listed.map Ls.e=s.listed.map Ls.e:=by have:=congrArg St.listed he;exact this.symm
 have lLs:t.listed.length=s.listed.length:=by have:=congrArg List.length gLs;simpa using this
 have HP:=hs.rLs
 have HQ:=ht.rLs
 rw [hp] at HP
 rw [hq] at HQ
 have hi':i<t.listed.length:=by rw [lLs];exact hi
 obtain ⟨b,off,c1,v1,-,-,h1⟩:=HP.at hi
 obtain ⟨b',off',c2,v2,-,-,h2⟩:=HQ.at hi'
 injection v1 with v1
 injection v2 with v2
 have ei:(Ls.e t.listed[i])=(Ls.e s.listed[i]):=by
   have:=congrArg (fun l=>l[i]?) gLs
   simp only [List.getElem?_map,List.getElem?_eq_getElem hi,List.getElem?_eq_getElem hi',Option.map_some] at this
   exact Option.some.inj this
 have f_token:t.listed[i].token=s.listed[i].token:=by have:=congrArg Ls.token ei;exact this
 have f_inst:t.listed[i].inst=s.listed[i].inst:=by have:=congrArg Ls.inst ei;exact this
 have f_node:t.listed[i].node=s.listed[i].node:=by have:=congrArg Ls.node ei;exact this
 have f_name:t.listed[i].name=s.listed[i].name:=by have:=congrArg Ls.name ei;exact this
 have f_key:t.listed[i].key=s.listed[i].key:=by have:=congrArg Ls.key ei;exact this
 have f_msg:t.listed[i].msg=s.listed[i].msg:=by have:=congrArg Ls.msg ei;exact this
 have f_vars:t.listed[i].vars=s.listed[i].vars:=by have:=congrArg Ls.vars ei;exact this
 exact ⟨s.listed[i],s.listed[i].vv,t.listed[i].vv,b,off,b',off',v1,v2,fun W hW=>⟨⟨h1 W hW i hi 0 _ rfl,h1 W hW i hi 1 _ rfl,h1 W hW i hi 2 _ rfl,h1 W hW i hi 3 _ rfl,h1 W hW i hi 4 _ rfl,h1 W hW i hi 5 _ rfl,h1 W hW i hi 6 _ rfl⟩,(h2 W hW i hi' 0 _ rfl).trans (by rw [f_token]),(h2 W hW i hi' 1 _ rfl).trans (by rw [f_inst]),(h2 W hW i hi' 2 _ rfl).trans (by rw [f_node]),(h2 W hW i hi' 3 _ rfl).trans (by rw [f_name]),(h2 W hW i hi' 4 _ rfl).trans (by rw [f_key]),(h2 W hW i hi' 5 _ rfl).trans (by rw [f_msg]),h2 W hW i hi' 6 _ rfl⟩,hs.iLs _ (List.getElem_mem hi),(f_vars ▸ ht.iLs _ (List.getElem_mem hi')),hz.mLs _ (List.getElem_mem hi)⟩

def EwMs (w:World) (pa qa:Option Addr) (n:Nat):Prop:=∀i:Nat,i<n→∃(x:Ms) (pvv qvv:Value) (piv qiv:Value) (b off b' off':Nat),pa=some ⟨b,off,none⟩∧qa=some ⟨b',off',none⟩∧(∀W,Below w.heap.size w W→(W.cell? ⟨b,off+i*7+0,none⟩=some (.int .u64 (x.key:Int))∧W.cell? ⟨b,off+i*7+1,none⟩=some (.string (S x.name))∧W.cell? ⟨b,off+i*7+2,none⟩=some (.string (S x.for_))∧W.cell? ⟨b,off+i*7+3,none⟩=some (.string (S x.id))∧W.cell? ⟨b,off+i*7+4,none⟩=some (.int .i64 x.unt)∧W.cell? ⟨b,off+i*7+5,none⟩=some (pvv)∧W.cell? ⟨b,off+i*7+6,none⟩=some (piv))∧(W.cell? ⟨b',off'+i*7+0,none⟩=some (.int .u64 (x.key:Int))∧W.cell? ⟨b',off'+i*7+1,none⟩=some (.string (S x.name))∧W.cell? ⟨b',off'+i*7+2,none⟩=some (.string (S x.for_))∧W.cell? ⟨b',off'+i*7+3,none⟩=some (.string (S x.id))∧W.cell? ⟨b',off'+i*7+4,none⟩=some (.int .i64 x.unt)∧W.cell? ⟨b',off'+i*7+5,none⟩=some (qvv)∧W.cell? ⟨b',off'+i*7+6,none⟩=some (qiv)))∧Rr 4 Vr.c w pvv x.vars∧Rr 4 Vr.c w qvv x.vars∧x.vars.length*48≤211106232528000∧Rr 1 Un.c w piv x.its∧Rr 1 Un.c w qiv x.its∧x.its.length*8≤211106232528000
theorem EwMs.of {w:World} {s t:St} {pa qa:Option Addr} {pc qc:Nat} (hs:Sv w s) (ht:Sv w t) (he:s.e=t.e) (hz:Sz s) (hp:s.vMs=.slice pa s.msgs.length pc) (hq:t.vMs=.slice qa t.msgs.length qc):EwMs w pa qa s.msgs.length:=by
 intro i hi
 have gMs:t.msgs.map Ms.e=s.msgs.map Ms.e:=by have:=congrArg St.msgs he;exact this.symm
 have lMs:t.msgs.length=s.msgs.length:=by have:=congrArg List.length gMs;simpa using this
 have HP:=hs.rMs
 have HQ:=ht.rMs
 rw [hp] at HP
 rw [hq] at HQ
 have hi':i<t.msgs.length:=by rw [lMs];exact hi
 obtain ⟨b,off,c1,v1,-,-,h1⟩:=HP.at hi
 obtain ⟨b',off',c2,v2,-,-,h2⟩:=HQ.at hi'
 injection v1 with v1
 injection v2 with v2
 have ei:(Ms.e t.msgs[i])=(Ms.e s.msgs[i]):=by
   have:=congrArg (fun l=>l[i]?) gMs
   simp only [List.getElem?_map,List.getElem?_eq_getElem hi,List.getElem?_eq_getElem hi',Option.map_some] at this
   exact Option.some.inj this
 have f_key:t.msgs[i].key=s.msgs[i].key:=by have:=congrArg Ms.key ei;exact this
 have f_name:t.msgs[i].name=s.msgs[i].name:=by have:=congrArg Ms.name ei;exact this
 have f_for_:t.msgs[i].for_=s.msgs[i].for_:=by have:=congrArg Ms.for_ ei;exact this
 have f_id:t.msgs[i].id=s.msgs[i].id:=by have:=congrArg Ms.id ei;exact this
 have f_unt:t.msgs[i].unt=s.msgs[i].unt:=by have:=congrArg Ms.unt ei;exact this
 have f_vars:t.msgs[i].vars=s.msgs[i].vars:=by have:=congrArg Ms.vars ei;exact this
 have f_its:t.msgs[i].its=s.msgs[i].its:=by have:=congrArg Ms.its ei;exact this
 exact ⟨s.msgs[i],s.msgs[i].vv,t.msgs[i].vv,s.msgs[i].iv,t.msgs[i].iv,b,off,b',off',v1,v2,fun W hW=>⟨⟨h1 W hW i hi 0 _ rfl,h1 W hW i hi 1 _ rfl,h1 W hW i hi 2 _ rfl,h1 W hW i hi 3 _ rfl,h1 W hW i hi 4 _ rfl,h1 W hW i hi 5 _ rfl,h1 W hW i hi 6 _ rfl⟩,(h2 W hW i hi' 0 _ rfl).trans (by rw [f_key]),(h2 W hW i hi' 1 _ rfl).trans (by rw [f_name]),(h2 W hW i hi' 2 _ rfl).trans (by rw [f_for_]),(h2 W hW i hi' 3 _ rfl).trans (by rw [f_id]),(h2 W hW i hi' 4 _ rfl).trans (by rw [f_unt]),h2 W hW i hi' 5 _ rfl,h2 W hW i hi' 6 _ rfl⟩,hs.iMs _ (List.getElem_mem hi),(f_vars ▸ ht.iMs _ (List.getElem_mem hi')),hz.mMs _ (List.getElem_mem hi),hs.qMs _ (List.getElem_mem hi),(f_its ▸ ht.qMs _ (List.getElem_mem hi')),hz.kMs _ (List.getElem_mem hi)⟩

theorem dSame_core {w : World} (pos done made : Nat) (paD qaD : Option Addr) (pcD qcD nDe : Nat) (paI qaI : Option Addr) (pcI qcI nIn : Nat) (paT qaT : Option Addr) (pcT qcT nTk : Nat) (paJ qaJ : Option Addr) (pcJ qcJ nJb : Nat) (paM qaM : Option Addr) (pcM qcM nTm : Nat) (paS qaS : Option Addr) (pcS qcS nSb : Nat) (paK qaK : Option Addr) (pcK qcK nKp : Nat) (paL qaL : Option Addr) (pcL qcL nLs : Nat) (paG qaG : Option Addr) (pcG qcG nMs : Nat) (zDe : nDe ≤ 4611686018427387904) (EDe : Hid (EwDe w paD qaD nDe)) (zIn : nIn ≤ 4611686018427387904) (EIn : Hid (EwIn w paI qaI nIn)) (zTk : nTk ≤ 4611686018427387904) (ETk : Hid (EwTk w paT qaT nTk)) (zJb : nJb ≤ 4611686018427387904) (EJb : Hid (EwJb w paJ qaJ nJb)) (zTm : nTm ≤ 4611686018427387904) (ETm : Hid (EwTm w paM qaM nTm)) (zSb : nSb ≤ 4611686018427387904) (ESb : Hid (EwSb w paS qaS nSb)) (zKp : nKp ≤ 4611686018427387904) (EKp : Hid (EwKp w paK qaK nKp)) (zLs : nLs ≤ 4611686018427387904) (ELs : Hid (EwLs w paL qaL nLs)) (zMs : nMs ≤ 4611686018427387904) (EMs : Hid (EwMs w paG qaG nMs)) :
   Calls Tryz.prog 8 #[.agg #[.int .u64 (pos:Int),.int .u64 (done:Int),.int .u64 (made:Int),.slice paD nDe pcD,.slice paI nIn pcI,.slice paT nTk pcT,.slice paJ nJb pcJ,.slice paM nTm pcM,.slice paS nSb pcS,.slice paK nKp pcK,.slice paL nLs pcL,.slice paG nMs pcG],.agg #[.int .u64 (pos:Int),.int .u64 (done:Int),.int .u64 (made:Int),.slice qaD nDe qcD,.slice qaI nIn qcI,.slice qaT nTk qcT,.slice qaJ nJb qcJ,.slice qaM nTm qcM,.slice qaS nSb qcS,.slice qaK nKp qcK,.slice qaL nLs qcL,.slice qaG nMs qcG]] w fun e w'=>e=.returned (.bool true)∧Below w.heap.size w w':=by
 have hb0:Below w.heap.size w ((w.alloc (.cells #[.int .u64 (pos:Int),.int .u64 (done:Int),.int .u64 (made:Int),.slice paD nDe pcD,.slice paI nIn pcI,.slice paT nTk pcT,.slice paJ nJb pcJ,.slice paM nTm pcM,.slice paS nSb pcS,.slice paK nKp pcK,.slice paL nLs pcL,.slice paG nMs pcG] 33)).alloc (.cells #[.int .u64 (pos:Int),.int .u64 (done:Int),.int .u64 (made:Int),.slice qaD nDe qcD,.slice qaI nIn qcI,.slice qaT nTk qcT,.slice qaJ nJb qcJ,.slice qaM nTm qcM,.slice qaS nSb qcS,.slice qaK nKp qcK,.slice qaL nLs qcL,.slice qaG nMs qcG] 33)):=((Below.refl _ w).alloc nlr _).alloc (by simp) _
 have HB:Hid (∀W,Below ((w.alloc (.cells #[.int .u64 (pos:Int),.int .u64 (done:Int),.int .u64 (made:Int),.slice paD nDe pcD,.slice paI nIn pcI,.slice paT nTk pcT,.slice paJ nJb pcJ,.slice paM nTm pcM,.slice paS nSb pcS,.slice paK nKp pcK,.slice paL nLs pcL,.slice paG nMs pcG] 33)).alloc (.cells #[.int .u64 (pos:Int),.int .u64 (done:Int),.int .u64 (made:Int),.slice qaD nDe qcD,.slice qaI nIn qcI,.slice qaT nTk qcT,.slice qaJ nJb qcJ,.slice qaM nTm qcM,.slice qaS nSb qcS,.slice qaK nKp qcK,.slice qaL nLs qcL,.slice qaG nMs qcG] 33)).heap.size ((w.alloc (.cells #[.int .u64 (pos:Int),.int .u64 (done:Int),.int .u64 (made:Int),.slice paD nDe pcD,.slice paI nIn pcI,.slice paT nTk pcT,.slice paJ nJb pcJ,.slice paM nTm pcM,.slice paS nSb pcS,.slice paK nKp pcK,.slice paL nLs pcL,.slice paG nMs pcG] 33)).alloc (.cells #[.int .u64 (pos:Int),.int .u64 (done:Int),.int .u64 (made:Int),.slice qaD nDe qcD,.slice qaI nIn qcI,.slice qaT nTk qcT,.slice qaJ nJb qcJ,.slice qaM nTm qcM,.slice qaS nSb qcS,.slice qaK nKp qcK,.slice qaL nLs qcL,.slice qaG nMs qcG] 33)) W→Below w.heap.size w W):=fun W hW=>bel_of hb0 hW nlr
 have HS:Hid (∀W,Below ((w.alloc (.cells #[.int .u64 (pos:Int),.int .u64 (done:Int),.int .u64 (made:Int),.slice paD nDe pcD,.slice paI nIn pcI,.slice paT nTk pcT,.slice paJ nJb pcJ,.slice paM nTm pcM,.slice paS nSb pcS,.slice paK nKp pcK,.slice paL nLs pcL,.slice paG nMs pcG] 33)).alloc (.cells #[.int .u64 (pos:Int),.int .u64 (done:Int),.int .u64 (made:Int),.slice qaD nDe qcD,.slice qaI nIn qcI,.slice qaT nTk qcT,.slice qaJ nJb qcJ,.slice qaM nTm qcM,.slice qaS nSb qcS,.slice qaK nKp qcK,.slice qaL nLs qcL,.slice qaG nMs qcG] 33)).heap.size ((w.alloc (.cells #[.int .u64 (pos:Int),.int .u64 (done:Int),.int .u64 (made:Int),.slice paD nDe pcD,.slice paI nIn pcI,.slice paT nTk pcT,.slice paJ nJb pcJ,.slice paM nTm pcM,.slice paS nSb pcS,.slice paK nKp pcK,.slice paL nLs pcL,.slice paG nMs pcG] 33)).alloc (.cells #[.int .u64 (pos:Int),.int .u64 (done:Int),.int .u64 (made:Int),.slice qaD nDe qcD,.slice qaI nIn qcI,.slice qaT nTk qcT,.slice qaJ nJb qcJ,.slice qaM nTm qcM,.slice qaS nSb qcS,.slice qaK nKp qcK,.slice qaL nLs qcL,.slice qaG nMs qcG] 33)) W→(∀(j:Nat) (u:Value),([.int .u64 (pos:Int),.int .u64 (done:Int),.int .u64 (made:Int),.slice paD nDe pcD,.slice paI nIn pcI,.slice paT nTk pcT,.slice paJ nJb pcJ,.slice paM nTm pcM,.slice paS nSb pcS,.slice paK nKp pcK,.slice paL nLs pcL,.slice paG nMs pcG]:List Value)[j]?=some u→W.cell? ⟨w.heap.size,j,none⟩=some u)∧(∀(j:Nat) (u:Value),([.int .u64 (pos:Int),.int .u64 (done:Int),.int .u64 (made:Int),.slice qaD nDe qcD,.slice qaI nIn qcI,.slice qaT nTk qcT,.slice qaJ nJb qcJ,.slice qaM nTm qcM,.slice qaS nSb qcS,.slice qaK nKp qcK,.slice qaL nLs qcL,.slice qaG nMs qcG]:List Value)[j]?=some u→W.cell? ⟨w.heap.size+1,j,none⟩=some u)):=by
   intro W hW
   have e9:((w.alloc (.cells #[.int .u64 (pos:Int),.int .u64 (done:Int),.int .u64 (made:Int),.slice paD nDe pcD,.slice paI nIn pcI,.slice paT nTk pcT,.slice paJ nJb pcJ,.slice paM nTm pcM,.slice paS nSb pcS,.slice paK nKp pcK,.slice paL nLs pcL,.slice paG nMs pcG] 33)).alloc (.cells #[.int .u64 (pos:Int),.int .u64 (done:Int),.int .u64 (made:Int),.slice qaD nDe qcD,.slice qaI nIn qcI,.slice qaT nTk qcT,.slice qaJ nJb qcJ,.slice qaM nTm qcM,.slice qaS nSb qcS,.slice qaK nKp qcK,.slice qaL nLs qcL,.slice qaG nMs qcG] 33)).heap.size=w.heap.size+2:=by simp
   rw [e9] at hW
   refine ⟨fun j u hj=>(hW.cell (p:=⟨w.heap.size,j,none⟩) (by simp only;omega)).trans ?_,fun j u hj=>(hW.cell (p:=⟨w.heap.size+1,j,none⟩) (by simp only;omega)).trans ?_⟩
   · refine (World.cell?_alloc_lt _ _ _ ?_).trans ((World.cell?_alloc_new _ _ _ _).trans ?_)
     · simp
     · simpa using hj
   · have:=World.cell?_alloc_new (w.alloc (.cells #[.int .u64 (pos:Int),.int .u64 (done:Int),.int .u64 (made:Int),.slice paD nDe pcD,.slice paI nIn pcI,.slice paT nTk pcT,.slice paJ nJb pcJ,.slice paM nTm pcM,.slice paS nSb pcS,.slice paK nKp pcK,.slice paL nLs pcL,.slice paG nMs pcG] 33)) #[.int .u64 (pos:Int),.int .u64 (done:Int),.int .u64 (made:Int),.slice qaD nDe qcD,.slice qaI nIn qcI,.slice qaT nTk qcT,.slice qaJ nJb qcJ,.slice qaM nTm qcM,.slice qaS nSb qcS,.slice qaK nKp qcK,.slice qaL nLs qcL,.slice qaG nMs qcG] 33 j
     rw [World.size_alloc] at this
     exact this.trans (by simpa using hj)
 have HL:Hid (((w.alloc (.cells #[.int .u64 (pos:Int),.int .u64 (done:Int),.int .u64 (made:Int),.slice paD nDe pcD,.slice paI nIn pcI,.slice paT nTk pcT,.slice paJ nJb pcJ,.slice paM nTm pcM,.slice paS nSb pcS,.slice paK nKp pcK,.slice paL nLs pcL,.slice paG nMs pcG] 33)).alloc (.cells #[.int .u64 (pos:Int),.int .u64 (done:Int),.int .u64 (made:Int),.slice qaD nDe qcD,.slice qaI nIn qcI,.slice qaT nTk qcT,.slice qaJ nJb qcJ,.slice qaM nTm qcM,.slice qaS nSb qcS,.slice qaK nKp qcK,.slice qaL nLs qcL,.slice qaG nMs qcG] 33)).heap.size=w.heap.size+2):=by show _=_;simp
 clear hb0
 go_enter Tryz.func8,Tryz.ntmps8
 go_wp2
 generalize ((w.alloc (.cells #[.int .u64 (pos:Int),.int .u64 (done:Int),.int .u64 (made:Int),.slice paD nDe pcD,.slice paI nIn pcI,.slice paT nTk pcT,.slice paJ nJb pcJ,.slice paM nTm pcM,.slice paS nSb pcS,.slice paK nKp pcK,.slice paL nLs pcL,.slice paG nMs pcG] 33)).alloc (.cells #[.int .u64 (pos:Int),.int .u64 (done:Int),.int .u64 (made:Int),.slice qaD nDe qcD,.slice qaI nIn qcI,.slice qaT nTk qcT,.slice qaJ nJb qcJ,.slice qaM nTm qcM,.slice qaS nSb qcS,.slice qaK nKp qcK,.slice qaL nLs qcL,.slice qaG nMs qcG] 33))=W1 at *
 have HW0:Hid (Below W1.heap.size W1 W1):=brf
 go_loopw [5,6] (fun v5 v6 wr=>v5=.bool true∧∃i:Nat,v6=.int .i64 (i:Int)∧i≤nDe∧Hid (Below W1.heap.size W1 wr)) (fun _ v6 _=>nDe-(intOf v6).toNat)
 case atStart=>exact ⟨rfl,0,rfl,Nat.zero_le _,HW0.out⟩
 case round =>
   obtain ⟨rfl,i,rfl,hi,HW⟩:=hrel
   obtain ⟨mp,mq⟩:=HS.out wr HW.out
   have c1:=mp 3 _ rfl
   have c2:=mq 3 _ rfl
   clear mp mq
   by_cases hil:i<nDe
   · as_aux_lemma =>
       have hil':(i:Int)<(nDe:Int):=by omega
       have hi0:(0:Int)≤(i:Int):=by omega
       obtain ⟨x,b,off,b',off',rfl,rfl,hc⟩:=EDe.out i hil
       obtain ⟨⟨m0,m1⟩,⟨k0,k1⟩⟩:=hc wr (HB.out wr HW.out)
       simp only [Nat.add_zero] at m0 k0
       clear hc
       obtain ⟨x0,x1⟩:=x
       simp only at m0 k0 m1 k1
       go_wp2
       go_quiet (fail)
       go_wp2
       go_roundw
       case rel=>exact ⟨rfl,i+1,by simp,by omega,below_drewN HW.out _⟩
       case measure=>simp [intOf];omega
   · as_aux_lemma =>
       have hil':¬(i:Int)<(nDe:Int):=by omega
       clear c2 hil hi EDe zDe
       have HW1:Hid (Below W1.heap.size W1 wr):=HW.out
       clear HW
       generalize wr=wa0 at *
       go_wp2
       clear c1 hil'
       go_loopw [5,7] (fun v5 v6 wr=>v5=.bool true∧∃i:Nat,v6=.int .i64 (i:Int)∧i≤nIn∧Hid (Below W1.heap.size W1 wr)) (fun _ v6 _=>nIn-(intOf v6).toNat)
       case atStart=>exact ⟨rfl,0,rfl,Nat.zero_le _,HW1.out⟩
       case round =>
         obtain ⟨rfl,i,rfl,hi,HW⟩:=hrel
         obtain ⟨mp,mq⟩:=HS.out wr HW.out
         have c1:=mp 4 _ rfl
         have c2:=mq 4 _ rfl
         clear mp mq
         by_cases hil:i<nIn
         · as_aux_lemma =>
             have hil':(i:Int)<(nIn:Int):=by omega
             have hi0:(0:Int)≤(i:Int):=by omega
             obtain ⟨x,pvv,qvv,b,off,b',off',rfl,rfl,hc,rp,rq,hvn⟩:=EIn.out i hil
             obtain ⟨⟨m0,m1,m2⟩,⟨k0,k1,k2⟩⟩:=hc wr (HB.out wr HW.out)
             simp only [Nat.add_zero] at m0 k0
             have CS:∀n,Calls Tryz.prog 37 #[pvv,qvv] (wr.drewN n) fun e w'=>e=.returned (.bool true)∧∃m,w'=(wr.drewN n).drewN m:=fun n=>(Same9_q (rp.up (below_drewN (HB.out wr HW.out) n)) (rq.up (below_drewN (HB.out wr HW.out) n)) (by omega) (by omega)).mono (fun _ _ h=>⟨h.1.trans (by simp),h.2⟩)
             obtain ⟨ap,cp,rfl,-⟩:=id rp
             obtain ⟨aq,cq,rfl,-⟩:=id rq
             clear hc rp rq
             obtain ⟨x0,x1,x2,x3⟩:=x
             simp only at m0 m1 k0 k1 CS m2 k2
             go_wp2
             go_quiet ((go_at_call 37;refine Calls.quiet_of (CS _)))
             go_wp2
             go_quiet (fail)
             go_wp2
             go_roundw
             case rel=>exact ⟨rfl,i+1,by simp,by omega,below_drewN HW.out _⟩
             case measure=>simp [intOf];omega
         · as_aux_lemma =>
             have hil':¬(i:Int)<(nIn:Int):=by omega
             clear c2 hil hi EIn zIn
             have HW2:Hid (Below W1.heap.size W1 wr):=HW.out
             clear HW
             generalize wr=wa1 at *
             go_wp2
             clear c1 hil'
             go_loopw [5,9] (fun v5 v6 wr=>v5=.bool true∧∃i:Nat,v6=.int .i64 (i:Int)∧i≤nTk∧Hid (Below W1.heap.size W1 wr)) (fun _ v6 _=>nTk-(intOf v6).toNat)
             case atStart=>exact ⟨rfl,0,rfl,Nat.zero_le _,HW2.out⟩
             case round =>
               obtain ⟨rfl,i,rfl,hi,HW⟩:=hrel
               obtain ⟨mp,mq⟩:=HS.out wr HW.out
               have c1:=mp 5 _ rfl
               have c2:=mq 5 _ rfl
               clear mp mq
               by_cases hil:i<nTk
               · as_aux_lemma =>
                   have hil':(i:Int)<(nTk:Int):=by omega
                   have hi0:(0:Int)≤(i:Int):=by omega
                   obtain ⟨x,b,off,b',off',rfl,rfl,hc⟩:=ETk.out i hil
                   obtain ⟨⟨m0,m1,m2,m3,m4,m5⟩,⟨k0,k1,k2,k3,k4,k5⟩⟩:=hc wr (HB.out wr HW.out)
                   simp only [Nat.add_zero] at m0 k0
                   clear hc
                   obtain ⟨x0,x1,x2,x3,x4,x5⟩:=x
                   simp only at m0 k0 m1 k1 m2 k2 m3 k3 m4 k4 m5 k5
                   go_wp2
                   go_quiet (fail)
                   go_wp2
                   go_roundw
                   case rel=>exact ⟨rfl,i+1,by simp,by omega,below_drewN HW.out _⟩
                   case measure=>simp [intOf];omega
               · as_aux_lemma =>
                   have hil':¬(i:Int)<(nTk:Int):=by omega
                   clear c2 hil hi ETk zTk
                   have HW3:Hid (Below W1.heap.size W1 wr):=HW.out
                   clear HW
                   generalize wr=wa2 at *
                   go_wp2
                   clear c1 hil'
                   go_loopw [5,10] (fun v5 v6 wr=>v5=.bool true∧∃i:Nat,v6=.int .i64 (i:Int)∧i≤nJb∧Hid (Below W1.heap.size W1 wr)) (fun _ v6 _=>nJb-(intOf v6).toNat)
                   case atStart=>exact ⟨rfl,0,rfl,Nat.zero_le _,HW3.out⟩
                   case round =>
                     obtain ⟨rfl,i,rfl,hi,HW⟩:=hrel
                     obtain ⟨mp,mq⟩:=HS.out wr HW.out
                     have c1:=mp 6 _ rfl
                     have c2:=mq 6 _ rfl
                     clear mp mq
                     by_cases hil:i<nJb
                     · as_aux_lemma =>
                         have hil':(i:Int)<(nJb:Int):=by omega
                         have hi0:(0:Int)≤(i:Int):=by omega
                         obtain ⟨x,b,off,b',off',rfl,rfl,hc⟩:=EJb.out i hil
                         obtain ⟨⟨m0,m1,m2,m3,m4,m5⟩,⟨k0,k1,k2,k3,k4,k5⟩⟩:=hc wr (HB.out wr HW.out)
                         simp only [Nat.add_zero] at m0 k0
                         clear hc
                         obtain ⟨x0,x1,x2,x3,x4,x5⟩:=x
                         simp only at m0 k0 m1 k1 m2 k2 m3 k3 m4 k4 m5 k5
                         go_wp2
                         go_quiet (fail)
                         go_wp2
                         go_roundw
                         case rel=>exact ⟨rfl,i+1,by simp,by omega,below_drewN HW.out _⟩
                         case measure=>simp [intOf];omega
                     · as_aux_lemma =>
                         have hil':¬(i:Int)<(nJb:Int):=by omega
                         clear c2 hil hi EJb zJb
                         have HW4:Hid (Below W1.heap.size W1 wr):=HW.out
                         clear HW
                         generalize wr=wa3 at *
                         go_wp2
                         clear c1 hil'
                         go_loopw [5,11] (fun v5 v6 wr=>v5=.bool true∧∃i:Nat,v6=.int .i64 (i:Int)∧i≤nTm∧Hid (Below W1.heap.size W1 wr)) (fun _ v6 _=>nTm-(intOf v6).toNat)
                         case atStart=>exact ⟨rfl,0,rfl,Nat.zero_le _,HW4.out⟩
                         case round =>
                           obtain ⟨rfl,i,rfl,hi,HW⟩:=hrel
                           obtain ⟨mp,mq⟩:=HS.out wr HW.out
                           have c1:=mp 7 _ rfl
                           have c2:=mq 7 _ rfl
                           clear mp mq
                           by_cases hil:i<nTm
                           · as_aux_lemma =>
                               have hil':(i:Int)<(nTm:Int):=by omega
                               have hi0:(0:Int)≤(i:Int):=by omega
                               obtain ⟨x,b,off,b',off',rfl,rfl,hc⟩:=ETm.out i hil
                               obtain ⟨⟨m0,m1,m2⟩,⟨k0,k1,k2⟩⟩:=hc wr (HB.out wr HW.out)
                               simp only [Nat.add_zero] at m0 k0
                               clear hc
                               obtain ⟨x0,x1,x2⟩:=x
                               simp only at m0 k0 m1 k1 m2 k2
                               go_wp2
                               go_quiet (fail)
                               go_wp2
                               go_roundw
                               case rel=>exact ⟨rfl,i+1,by simp,by omega,below_drewN HW.out _⟩
                               case measure=>simp [intOf];omega
                           · as_aux_lemma =>
                               have hil':¬(i:Int)<(nTm:Int):=by omega
                               clear c2 hil hi ETm zTm
                               have HW5:Hid (Below W1.heap.size W1 wr):=HW.out
                               clear HW
                               generalize wr=wa4 at *
                               go_wp2
                               clear c1 hil'
                               go_loopw [5,12] (fun v5 v6 wr=>v5=.bool true∧∃i:Nat,v6=.int .i64 (i:Int)∧i≤nSb∧Hid (Below W1.heap.size W1 wr)) (fun _ v6 _=>nSb-(intOf v6).toNat)
                               case atStart=>exact ⟨rfl,0,rfl,Nat.zero_le _,HW5.out⟩
                               case round =>
                                 obtain ⟨rfl,i,rfl,hi,HW⟩:=hrel
                                 obtain ⟨mp,mq⟩:=HS.out wr HW.out
                                 have c1:=mp 8 _ rfl
                                 have c2:=mq 8 _ rfl
                                 clear mp mq
                                 by_cases hil:i<nSb
                                 · as_aux_lemma =>
                                     have hil':(i:Int)<(nSb:Int):=by omega
                                     have hi0:(0:Int)≤(i:Int):=by omega
                                     obtain ⟨x,b,off,b',off',rfl,rfl,hc⟩:=ESb.out i hil
                                     obtain ⟨⟨m0,m1,m2,m3,m4,m5⟩,⟨k0,k1,k2,k3,k4,k5⟩⟩:=hc wr (HB.out wr HW.out)
                                     simp only [Nat.add_zero] at m0 k0
                                     clear hc
                                     obtain ⟨x0,x1,x2,x3,x4,x5⟩:=x
                                     simp only at m0 k0 m1 k1 m2 k2 m3 k3 m4 k4 m5 k5
                                     go_wp2
                                     go_quiet (fail)
                                     go_wp2
                                     go_roundw
                                     case rel=>exact ⟨rfl,i+1,by simp,by omega,below_drewN HW.out _⟩
                                     case measure=>simp [intOf];omega
                                 · as_aux_lemma =>
                                     have hil':¬(i:Int)<(nSb:Int):=by omega
                                     clear c2 hil hi ESb zSb
                                     have HW6:Hid (Below W1.heap.size W1 wr):=HW.out
                                     clear HW
                                     generalize wr=wa5 at *
                                     go_wp2
                                     clear c1 hil'
                                     go_loopw [5,13] (fun v5 v6 wr=>v5=.bool true∧∃i:Nat,v6=.int .i64 (i:Int)∧i≤nKp∧Hid (Below W1.heap.size W1 wr)) (fun _ v6 _=>nKp-(intOf v6).toNat)
                                     case atStart=>exact ⟨rfl,0,rfl,Nat.zero_le _,HW6.out⟩
                                     case round =>
                                       obtain ⟨rfl,i,rfl,hi,HW⟩:=hrel
                                       obtain ⟨mp,mq⟩:=HS.out wr HW.out
                                       have c1:=mp 9 _ rfl
                                       have c2:=mq 9 _ rfl
                                       clear mp mq
                                       by_cases hil:i<nKp
                                       · as_aux_lemma =>
                                           have hil':(i:Int)<(nKp:Int):=by omega
                                           have hi0:(0:Int)≤(i:Int):=by omega
                                           obtain ⟨x,b,off,b',off',rfl,rfl,hc⟩:=EKp.out i hil
                                           obtain ⟨⟨m0,m1,m2⟩,⟨k0,k1,k2⟩⟩:=hc wr (HB.out wr HW.out)
                                           simp only [Nat.add_zero] at m0 k0
                                           clear hc
                                           obtain ⟨x0,x1,x2⟩:=x
                                           simp only at m0 k0 m1 k1 m2 k2
                                           go_wp2
                                           go_quiet (fail)
                                           go_wp2
                                           go_roundw
                                           case rel=>exact ⟨rfl,i+1,by simp,by omega,below_drewN HW.out _⟩
                                           case measure=>simp [intOf];omega
                                       · as_aux_lemma =>
                                           have hil':¬(i:Int)<(nKp:Int):=by omega
                                           clear c2 hil hi EKp zKp
                                           have HW7:Hid (Below W1.heap.size W1 wr):=HW.out
                                           clear HW
                                           generalize wr=wa6 at *
                                           go_wp2
                                           clear c1 hil'
                                           go_loopw [5,14] (fun v5 v6 wr=>v5=.bool true∧∃i:Nat,v6=.int .i64 (i:Int)∧i≤nLs∧Hid (Below W1.heap.size W1 wr)) (fun _ v6 _=>nLs-(intOf v6).toNat)
                                           case atStart=>exact ⟨rfl,0,rfl,Nat.zero_le _,HW7.out⟩
                                           case round =>
                                             obtain ⟨rfl,i,rfl,hi,HW⟩:=hrel
                                             obtain ⟨mp,mq⟩:=HS.out wr HW.out
                                             have c1:=mp 10 _ rfl
                                             have c2:=mq 10 _ rfl
                                             clear mp mq
                                             by_cases hil:i<nLs
                                             · as_aux_lemma =>
                                                 have hil':(i:Int)<(nLs:Int):=by omega
                                                 have hi0:(0:Int)≤(i:Int):=by omega
                                                 obtain ⟨x,pvv,qvv,b,off,b',off',rfl,rfl,hc,rp,rq,hvn⟩:=ELs.out i hil
                                                 obtain ⟨⟨m0,m1,m2,m3,m4,m5,m6⟩,⟨k0,k1,k2,k3,k4,k5,k6⟩⟩:=hc wr (HB.out wr HW.out)
                                                 simp only [Nat.add_zero] at m0 k0
                                                 clear hc
                                                 generalize wr=wo at *
                                                 have lb:=World.block_lt_of_cell? _ _ m0
                                                 have lb':=World.block_lt_of_cell? _ _ k0
                                                 have lw:=World.block_lt_of_cell? _ _ c1
                                                 have lw':=World.block_lt_of_cell? _ _ c2
                                                 simp only at lb lb' lw lw'
                                                 obtain ⟨ap,cp,rfl,-⟩:=id rp
                                                 obtain ⟨aq,cq,rfl,-⟩:=id rq
                                                 obtain ⟨x0,x1,x2,x3,x4,x5,x6,x7⟩:=x
                                                 simp only at m0 k0 m1 k1 m2 k2 m3 k3 m4 k4 m5 k5 m6 k6 rp rq hvn
                                                 have hbq:Below wo.heap.size wo ((wo.alloc (.cells #[.int .u64 (x0:Int),.int .u64 (x1:Int),.int .i64 x2,.string (S x3),.string (S x4),.int .u64 (x5:Int),.slice ap x7.length cp] 81)).alloc (.cells #[.int .u64 (x0:Int),.int .u64 (x1:Int),.int .i64 x2,.string (S x3),.string (S x4),.int .u64 (x5:Int),.slice aq x7.length cq] 81)):=((Below.refl _ wo).alloc nlr _).alloc (by simp) _
                                                 have hbW:=HB.out wo HW.out
                                                 have CS:Calls Tryz.prog 37 #[.slice ap x7.length cp,.slice aq x7.length cq] ((wo.alloc (.cells #[.int .u64 (x0:Int),.int .u64 (x1:Int),.int .i64 x2,.string (S x3),.string (S x4),.int .u64 (x5:Int),.slice ap x7.length cp] 81)).alloc (.cells #[.int .u64 (x0:Int),.int .u64 (x1:Int),.int .i64 x2,.string (S x3),.string (S x4),.int .u64 (x5:Int),.slice aq x7.length cq] 81)) fun e w'=>e=.returned (.bool true)∧Below ((wo.alloc (.cells #[.int .u64 (x0:Int),.int .u64 (x1:Int),.int .i64 x2,.string (S x3),.string (S x4),.int .u64 (x5:Int),.slice ap x7.length cp] 81)).alloc (.cells #[.int .u64 (x0:Int),.int .u64 (x1:Int),.int .i64 x2,.string (S x3),.string (S x4),.int .u64 (x5:Int),.slice aq x7.length cq] 81)).heap.size ((wo.alloc (.cells #[.int .u64 (x0:Int),.int .u64 (x1:Int),.int .i64 x2,.string (S x3),.string (S x4),.int .u64 (x5:Int),.slice ap x7.length cp] 81)).alloc (.cells #[.int .u64 (x0:Int),.int .u64 (x1:Int),.int .i64 x2,.string (S x3),.string (S x4),.int .u64 (x5:Int),.slice aq x7.length cq] 81)) w':=(Same9_any (rp.up (bel_of hbW hbq nlr)) (rq.up (bel_of hbW hbq nlr)) (by omega) (by omega)).mono (fun _ _ h=>⟨h.1.trans (by simp),h.2⟩)
                                                 have HS2:Hid (∀W,Below ((wo.alloc (.cells #[.int .u64 (x0:Int),.int .u64 (x1:Int),.int .i64 x2,.string (S x3),.string (S x4),.int .u64 (x5:Int),.slice ap x7.length cp] 81)).alloc (.cells #[.int .u64 (x0:Int),.int .u64 (x1:Int),.int .i64 x2,.string (S x3),.string (S x4),.int .u64 (x5:Int),.slice aq x7.length cq] 81)).heap.size ((wo.alloc (.cells #[.int .u64 (x0:Int),.int .u64 (x1:Int),.int .i64 x2,.string (S x3),.string (S x4),.int .u64 (x5:Int),.slice ap x7.length cp] 81)).alloc (.cells #[.int .u64 (x0:Int),.int .u64 (x1:Int),.int .i64 x2,.string (S x3),.string (S x4),.int .u64 (x5:Int),.slice aq x7.length cq] 81)) W→(W.cell? ⟨wo.heap.size,0,none⟩=some (.int .u64 (x0:Int))∧W.cell? ⟨wo.heap.size,1,none⟩=some (.int .u64 (x1:Int))∧W.cell? ⟨wo.heap.size,2,none⟩=some (.int .i64 x2)∧W.cell? ⟨wo.heap.size,3,none⟩=some (.string (S x3))∧W.cell? ⟨wo.heap.size,4,none⟩=some (.string (S x4))∧W.cell? ⟨wo.heap.size,5,none⟩=some (.int .u64 (x5:Int))∧W.cell? ⟨wo.heap.size,6,none⟩=some (.slice ap x7.length cp))∧(W.cell? ⟨wo.heap.size+1,0,none⟩=some (.int .u64 (x0:Int))∧W.cell? ⟨wo.heap.size+1,1,none⟩=some (.int .u64 (x1:Int))∧W.cell? ⟨wo.heap.size+1,2,none⟩=some (.int .i64 x2)∧W.cell? ⟨wo.heap.size+1,3,none⟩=some (.string (S x3))∧W.cell? ⟨wo.heap.size+1,4,none⟩=some (.string (S x4))∧W.cell? ⟨wo.heap.size+1,5,none⟩=some (.int .u64 (x5:Int))∧W.cell? ⟨wo.heap.size+1,6,none⟩=some (.slice aq x7.length cq))∧Below W1.heap.size W1 W∧Below w.heap.size w W):=by
                                                   intro W hW
                                                   have e9:((wo.alloc (.cells #[.int .u64 (x0:Int),.int .u64 (x1:Int),.int .i64 x2,.string (S x3),.string (S x4),.int .u64 (x5:Int),.slice ap x7.length cp] 81)).alloc (.cells #[.int .u64 (x0:Int),.int .u64 (x1:Int),.int .i64 x2,.string (S x3),.string (S x4),.int .u64 (x5:Int),.slice aq x7.length cq] 81)).heap.size=wo.heap.size+2:=by simp
                                                   have hW9:=hW
                                                   rw [e9] at hW
                                                   refine ⟨⟨?_,?_,?_,?_,?_,?_,?_⟩,⟨?_,?_,?_,?_,?_,?_,?_⟩,bel_of HW.out (bel_of hbq hW9 nlr) nlr,bel_of hbW (bel_of hbq hW9 nlr) nlr⟩
                                                   · exact (hW.cell (p:=⟨wo.heap.size,0,none⟩) (by simp only;omega)).trans (by go_simp)
                                                   · exact (hW.cell (p:=⟨wo.heap.size,1,none⟩) (by simp only;omega)).trans (by go_simp)
                                                   · exact (hW.cell (p:=⟨wo.heap.size,2,none⟩) (by simp only;omega)).trans (by go_simp)
                                                   · exact (hW.cell (p:=⟨wo.heap.size,3,none⟩) (by simp only;omega)).trans (by go_simp)
                                                   · exact (hW.cell (p:=⟨wo.heap.size,4,none⟩) (by simp only;omega)).trans (by go_simp)
                                                   · exact (hW.cell (p:=⟨wo.heap.size,5,none⟩) (by simp only;omega)).trans (by go_simp)
                                                   · exact (hW.cell (p:=⟨wo.heap.size,6,none⟩) (by simp only;omega)).trans (by go_simp)
                                                   · exact (hW.cell (p:=⟨wo.heap.size+1,0,none⟩) (by simp only;omega)).trans (by go_simp)
                                                   · exact (hW.cell (p:=⟨wo.heap.size+1,1,none⟩) (by simp only;omega)).trans (by go_simp)
                                                   · exact (hW.cell (p:=⟨wo.heap.size+1,2,none⟩) (by simp only;omega)).trans (by go_simp)
                                                   · exact (hW.cell (p:=⟨wo.heap.size+1,3,none⟩) (by simp only;omega)).trans (by go_simp)
                                                   · exact (hW.cell (p:=⟨wo.heap.size+1,4,none⟩) (by simp only;omega)).trans (by go_simp)
                                                   · exact (hW.cell (p:=⟨wo.heap.size+1,5,none⟩) (by simp only;omega)).trans (by go_simp)
                                                   · exact (hW.cell (p:=⟨wo.heap.size+1,6,none⟩) (by simp only;omega)).trans (by go_simp)
                                                 clear hbq hbW rp rq
                                                 go_wp2_with (go_at_call 37;refine CS.mono ?_;rintro e w3 ⟨rfl,b3⟩;obtain ⟨⟨p0c,p1c,p2c,p3c,p4c,p5c,p6c⟩,⟨q0c,q1c,q2c,q3c,q4c,q5c,q6c⟩,hb3,hb4⟩:=HS2.out w3 b3;(have HW3:Hid (Below W1.heap.size W1 w3):=hb3);(have HW4:Hid (Below w.heap.size w w3):=hb4);clear b3 hb3 hb4 CS)
                                                 go_roundw
                                                 case rel=>exact ⟨rfl,i+1,by simp,by omega,HW3.out⟩
                                                 case measure=>simp [intOf];omega
                                             · as_aux_lemma =>
                                                 have hil':¬(i:Int)<(nLs:Int):=by omega
                                                 clear c2 hil hi ELs zLs
                                                 have HW8:Hid (Below W1.heap.size W1 wr):=HW.out
                                                 clear HW
                                                 generalize wr=wa7 at *
                                                 go_wp2
                                                 clear c1 hil'
                                                 go_loopw [5,18] (fun v5 v6 wr=>v5=.bool true∧∃i:Nat,v6=.int .i64 (i:Int)∧i≤nMs∧Hid (Below W1.heap.size W1 wr)) (fun _ v6 _=>nMs-(intOf v6).toNat)
                                                 case atStart=>exact ⟨rfl,0,rfl,Nat.zero_le _,HW8.out⟩
                                                 case round =>
                                                   obtain ⟨rfl,i,rfl,hi,HW⟩:=hrel
                                                   obtain ⟨mp,mq⟩:=HS.out wr HW.out
                                                   have c1:=mp 11 _ rfl
                                                   have c2:=mq 11 _ rfl
                                                   clear mp mq
                                                   by_cases hil:i<nMs
                                                   · as_aux_lemma =>
                                                       have hil':(i:Int)<(nMs:Int):=by omega
                                                       have hi0:(0:Int)≤(i:Int):=by omega
                                                       obtain ⟨x,pvv,qvv,piv,qiv,b,off,b',off',rfl,rfl,hc,rp,rq,hvn,ip,iq,hin⟩:=EMs.out i hil
                                                       obtain ⟨⟨m0,m1,m2,m3,m4,m5,m6⟩,⟨k0,k1,k2,k3,k4,k5,k6⟩⟩:=hc wr (HB.out wr HW.out)
                                                       simp only [Nat.add_zero] at m0 k0
                                                       clear hc
                                                       generalize wr=wo at *
                                                       have lb:=World.block_lt_of_cell? _ _ m0
                                                       have lb':=World.block_lt_of_cell? _ _ k0
                                                       have lw:=World.block_lt_of_cell? _ _ c1
                                                       have lw':=World.block_lt_of_cell? _ _ c2
                                                       simp only at lb lb' lw lw'
                                                       obtain ⟨ap,cp,rfl,-⟩:=id rp
                                                       obtain ⟨aq,cq,rfl,-⟩:=id rq
                                                       obtain ⟨ai,ci,rfl,-⟩:=id ip
                                                       obtain ⟨aj,cj,rfl,-⟩:=id iq
                                                       have HIP:Hid (Rr 1 Un.c w (.slice ai x.its.length ci) x.its):=ip
                                                       have HIQ:Hid (Rr 1 Un.c w (.slice aj x.its.length cj) x.its):=iq
                                                       clear ip iq
                                                       obtain ⟨x0,x1,x2,x3,x4,x5,x6,x7,x8⟩:=x
                                                       simp only at m0 k0 m1 k1 m2 k2 m3 k3 m4 k4 m5 k5 m6 k6 rp rq hvn HIP HIQ hin
                                                       have hbq:Below wo.heap.size wo ((wo.alloc (.cells #[.int .u64 (x0:Int),.string (S x1),.string (S x2),.string (S x3),.int .i64 x4,.slice ap x7.length cp,.slice ai x8.length ci] 87)).alloc (.cells #[.int .u64 (x0:Int),.string (S x1),.string (S x2),.string (S x3),.int .i64 x4,.slice aq x7.length cq,.slice aj x8.length cj] 87)):=((Below.refl _ wo).alloc nlr _).alloc (by simp) _
                                                       have hbW:=HB.out wo HW.out
                                                       have CS:Calls Tryz.prog 37 #[.slice ap x7.length cp,.slice aq x7.length cq] ((wo.alloc (.cells #[.int .u64 (x0:Int),.string (S x1),.string (S x2),.string (S x3),.int .i64 x4,.slice ap x7.length cp,.slice ai x8.length ci] 87)).alloc (.cells #[.int .u64 (x0:Int),.string (S x1),.string (S x2),.string (S x3),.int .i64 x4,.slice aq x7.length cq,.slice aj x8.length cj] 87)) fun e w'=>e=.returned (.bool true)∧Below ((wo.alloc (.cells #[.int .u64 (x0:Int),.string (S x1),.string (S x2),.string (S x3),.int .i64 x4,.slice ap x7.length cp,.slice ai x8.length ci] 87)).alloc (.cells #[.int .u64 (x0:Int),.string (S x1),.string (S x2),.string (S x3),.int .i64 x4,.slice aq x7.length cq,.slice aj x8.length cj] 87)).heap.size ((wo.alloc (.cells #[.int .u64 (x0:Int),.string (S x1),.string (S x2),.string (S x3),.int .i64 x4,.slice ap x7.length cp,.slice ai x8.length ci] 87)).alloc (.cells #[.int .u64 (x0:Int),.string (S x1),.string (S x2),.string (S x3),.int .i64 x4,.slice aq x7.length cq,.slice aj x8.length cj] 87)) w':=(Same9_any (rp.up (bel_of hbW hbq nlr)) (rq.up (bel_of hbW hbq nlr)) (by omega) (by omega)).mono (fun _ _ h=>⟨h.1.trans (by simp),h.2⟩)
                                                       have HS2:Hid (∀W,Below ((wo.alloc (.cells #[.int .u64 (x0:Int),.string (S x1),.string (S x2),.string (S x3),.int .i64 x4,.slice ap x7.length cp,.slice ai x8.length ci] 87)).alloc (.cells #[.int .u64 (x0:Int),.string (S x1),.string (S x2),.string (S x3),.int .i64 x4,.slice aq x7.length cq,.slice aj x8.length cj] 87)).heap.size ((wo.alloc (.cells #[.int .u64 (x0:Int),.string (S x1),.string (S x2),.string (S x3),.int .i64 x4,.slice ap x7.length cp,.slice ai x8.length ci] 87)).alloc (.cells #[.int .u64 (x0:Int),.string (S x1),.string (S x2),.string (S x3),.int .i64 x4,.slice aq x7.length cq,.slice aj x8.length cj] 87)) W→(W.cell? ⟨wo.heap.size,0,none⟩=some (.int .u64 (x0:Int))∧W.cell? ⟨wo.heap.size,1,none⟩=some (.string (S x1))∧W.cell? ⟨wo.heap.size,2,none⟩=some (.string (S x2))∧W.cell? ⟨wo.heap.size,3,none⟩=some (.string (S x3))∧W.cell? ⟨wo.heap.size,4,none⟩=some (.int .i64 x4)∧W.cell? ⟨wo.heap.size,5,none⟩=some (.slice ap x7.length cp)∧W.cell? ⟨wo.heap.size,6,none⟩=some (.slice ai x8.length ci))∧(W.cell? ⟨wo.heap.size+1,0,none⟩=some (.int .u64 (x0:Int))∧W.cell? ⟨wo.heap.size+1,1,none⟩=some (.string (S x1))∧W.cell? ⟨wo.heap.size+1,2,none⟩=some (.string (S x2))∧W.cell? ⟨wo.heap.size+1,3,none⟩=some (.string (S x3))∧W.cell? ⟨wo.heap.size+1,4,none⟩=some (.int .i64 x4)∧W.cell? ⟨wo.heap.size+1,5,none⟩=some (.slice aq x7.length cq)∧W.cell? ⟨wo.heap.size+1,6,none⟩=some (.slice aj x8.length cj))∧Below W1.heap.size W1 W∧Below w.heap.size w W):=by
                                                         intro W hW
                                                         have e9:((wo.alloc (.cells #[.int .u64 (x0:Int),.string (S x1),.string (S x2),.string (S x3),.int .i64 x4,.slice ap x7.length cp,.slice ai x8.length ci] 87)).alloc (.cells #[.int .u64 (x0:Int),.string (S x1),.string (S x2),.string (S x3),.int .i64 x4,.slice aq x7.length cq,.slice aj x8.length cj] 87)).heap.size=wo.heap.size+2:=by simp
                                                         have hW9:=hW
                                                         rw [e9] at hW
                                                         refine ⟨⟨?_,?_,?_,?_,?_,?_,?_⟩,⟨?_,?_,?_,?_,?_,?_,?_⟩,bel_of HW.out (bel_of hbq hW9 nlr) nlr,bel_of hbW (bel_of hbq hW9 nlr) nlr⟩
                                                         · exact (hW.cell (p:=⟨wo.heap.size,0,none⟩) (by simp only;omega)).trans (by go_simp)
                                                         · exact (hW.cell (p:=⟨wo.heap.size,1,none⟩) (by simp only;omega)).trans (by go_simp)
                                                         · exact (hW.cell (p:=⟨wo.heap.size,2,none⟩) (by simp only;omega)).trans (by go_simp)
                                                         · exact (hW.cell (p:=⟨wo.heap.size,3,none⟩) (by simp only;omega)).trans (by go_simp)
                                                         · exact (hW.cell (p:=⟨wo.heap.size,4,none⟩) (by simp only;omega)).trans (by go_simp)
                                                         · exact (hW.cell (p:=⟨wo.heap.size,5,none⟩) (by simp only;omega)).trans (by go_simp)
                                                         · exact (hW.cell (p:=⟨wo.heap.size,6,none⟩) (by simp only;omega)).trans (by go_simp)
                                                         · exact (hW.cell (p:=⟨wo.heap.size+1,0,none⟩) (by simp only;omega)).trans (by go_simp)
                                                         · exact (hW.cell (p:=⟨wo.heap.size+1,1,none⟩) (by simp only;omega)).trans (by go_simp)
                                                         · exact (hW.cell (p:=⟨wo.heap.size+1,2,none⟩) (by simp only;omega)).trans (by go_simp)
                                                         · exact (hW.cell (p:=⟨wo.heap.size+1,3,none⟩) (by simp only;omega)).trans (by go_simp)
                                                         · exact (hW.cell (p:=⟨wo.heap.size+1,4,none⟩) (by simp only;omega)).trans (by go_simp)
                                                         · exact (hW.cell (p:=⟨wo.heap.size+1,5,none⟩) (by simp only;omega)).trans (by go_simp)
                                                         · exact (hW.cell (p:=⟨wo.heap.size+1,6,none⟩) (by simp only;omega)).trans (by go_simp)
                                                       clear hbq hbW rp rq
                                                       go_wp2_with (go_at_call 37;refine CS.mono ?_;rintro e w3 ⟨rfl,b3⟩;obtain ⟨⟨p0c,p1c,p2c,p3c,p4c,p5c,p6c⟩,⟨q0c,q1c,q2c,q3c,q4c,q5c,q6c⟩,hb3,hb4⟩:=HS2.out w3 b3;(have HW3:Hid (Below W1.heap.size W1 w3):=hb3);(have HW4:Hid (Below w.heap.size w w3):=hb4);clear b3 hb3 hb4 CS)
                                                       have hnI:x8.length≤4611686018427387904:=by omega
                                                       have HC3:Hid (∀W,Below w3.heap.size w3 W→W.cell? ⟨wo.heap.size,6,none⟩=some (.slice ai x8.length ci)∧W.cell? ⟨wo.heap.size+1,6,none⟩=some (.slice aj x8.length cj)):=fun W hW=>⟨(hW.cell (p:=⟨wo.heap.size,6,none⟩) (World.block_lt_of_cell? _ _ p6c)).trans p6c,(hW.cell (p:=⟨wo.heap.size+1,6,none⟩) (World.block_lt_of_cell? _ _ q6c)).trans q6c⟩
                                                       clear p0c q0c p1c q1c p2c q2c p3c q3c p4c q4c p5c q5c p6c q6c m0 k0 m1 k1 m2 k2 m3 k3 m4 k4 m5 k5 m6 k6 lb lb' lw lw' HS2
                                                       go_loopw [5,22] (fun v5 v6 wr=>v5=.bool true∧∃j:Nat,v6=.int .i64 (j:Int)∧j≤x8.length∧Hid (Below w3.heap.size w3 wr)) (fun _ v6 _=>x8.length-(intOf v6).toNat)
                                                       case atStart=>exact ⟨rfl,0,rfl,Nat.zero_le _,brf⟩
                                                       case round =>
                                                         obtain ⟨rfl,j,rfl,hj,HWj⟩:=hrel
                                                         obtain ⟨p6c,q6c⟩:=HC3.out wr HWj.out
                                                         by_cases hjl:j<x8.length
                                                         · have hjl':(j:Int)<(x8.length:Int):=by omega
                                                           have hj0:(0:Int)≤(j:Int):=by omega
                                                           obtain ⟨d1,o1,f1,v1,-,-,h1⟩:=HIP.out.at hjl
                                                           obtain ⟨d2,o2,f2,v2,-,-,h2⟩:=HIQ.out.at hjl
                                                           injection v1 with v1 _ v1c
                                                           injection v2 with v2 _ v2c
                                                           subst v1 v2 v1c v2c
                                                           have hbj:=bel_of HW4.out HWj.out nlr
                                                           have y1:=h1 wr hbj j hjl 0 _ rfl
                                                           have y2:=h2 wr hbj j hjl 0 _ rfl
                                                           simp only [Nat.add_zero,Nat.mul_one] at y1 y2
                                                           clear h1 h2 hbj
                                                           generalize x8[j]=z at *
                                                           go_wp2
                                                           go_quiet (fail)
                                                           go_wp2
                                                           go_roundw
                                                           case rel=>exact ⟨rfl,j+1,by simp,by omega,below_drewN HWj.out _⟩
                                                           case measure=>simp [intOf];omega
                                                         · have hjl':¬(j:Int)<(x8.length:Int):=by omega
                                                           have HWk:Hid (Below W1.heap.size W1 wr):=bel_of HW3.out HWj.out (by first | exact nlr | exact HW3.out.size)
                                                           go_wp2
                                                           go_roundw
                                                           case rel=>exact ⟨rfl,i+1,by simp,by omega,HWk.out⟩
                                                           case measure=>simp [intOf];omega
                                                   · as_aux_lemma =>
                                                       have hil':¬(i:Int)<(nMs:Int):=by omega
                                                       clear c2 hil hi EMs zMs
                                                       have HW9:Hid (Below W1.heap.size W1 wr):=HW.out
                                                       clear HW
                                                       generalize wr=wa8 at *
                                                       go_wp2
                                                       clear c1 hil'
                                                       go_ret
                                                       exact ⟨rfl,HB.out _ HW9.out⟩
theorem dSame_yes {w : World} {s t : St} (hs : Sv w s) (ht : Sv w t) (he : s.e = t.e) (hz : Sz s) :
   Calls Tryz.prog 8 #[.agg s.c.toArray,.agg t.c.toArray] w fun e w'=>e=.returned (.bool true)∧Below w.heap.size w w':=by
 have e0:t.pos=s.pos:=by have:=congrArg St.pos he;exact this.symm
 have e1:t.done=s.done:=by have:=congrArg St.done he;exact this.symm
 have e2:t.made=s.made:=by have:=congrArg St.made he;exact this.symm
 obtain ⟨paD,pcD,hpD,-⟩:=id hs.rDe
 obtain ⟨qaD,qcD,hqD,-⟩:=id ht.rDe
 have lDe:t.procs.length=s.procs.length:=by have:=congrArg (fun z=>z.procs.length) he;exact this.symm
 have EDe:Hid (EwDe w paD qaD s.procs.length):=EwDe.of hs ht he hz hpD hqD
 rw [lDe] at hqD
 obtain ⟨paI,pcI,hpI,-⟩:=id hs.rIn
 obtain ⟨qaI,qcI,hqI,-⟩:=id ht.rIn
 have lIn:t.insts.length=s.insts.length:=by have:=congrArg (fun z=>z.insts.length) he;simpa [St.e] using this.symm
 have EIn:Hid (EwIn w paI qaI s.insts.length):=EwIn.of hs ht he hz hpI hqI
 rw [lIn] at hqI
 obtain ⟨paT,pcT,hpT,-⟩:=id hs.rTk
 obtain ⟨qaT,qcT,hqT,-⟩:=id ht.rTk
 have lTk:t.tokens.length=s.tokens.length:=by have:=congrArg (fun z=>z.tokens.length) he;exact this.symm
 have ETk:Hid (EwTk w paT qaT s.tokens.length):=EwTk.of hs ht he hz hpT hqT
 rw [lTk] at hqT
 obtain ⟨paJ,pcJ,hpJ,-⟩:=id hs.rJb
 obtain ⟨qaJ,qcJ,hqJ,-⟩:=id ht.rJb
 have lJb:t.jobs.length=s.jobs.length:=by have:=congrArg (fun z=>z.jobs.length) he;exact this.symm
 have EJb:Hid (EwJb w paJ qaJ s.jobs.length):=EwJb.of hs ht he hz hpJ hqJ
 rw [lJb] at hqJ
 obtain ⟨paM,pcM,hpM,-⟩:=id hs.rTm
 obtain ⟨qaM,qcM,hqM,-⟩:=id ht.rTm
 have lTm:t.timers.length=s.timers.length:=by have:=congrArg (fun z=>z.timers.length) he;exact this.symm
 have ETm:Hid (EwTm w paM qaM s.timers.length):=EwTm.of hs ht he hz hpM hqM
 rw [lTm] at hqM
 obtain ⟨paS,pcS,hpS,-⟩:=id hs.rSb
 obtain ⟨qaS,qcS,hqS,-⟩:=id ht.rSb
 have lSb:t.subs.length=s.subs.length:=by have:=congrArg (fun z=>z.subs.length) he;exact this.symm
 have ESb:Hid (EwSb w paS qaS s.subs.length):=EwSb.of hs ht he hz hpS hqS
 rw [lSb] at hqS
 obtain ⟨paK,pcK,hpK,-⟩:=id hs.rKp
 obtain ⟨qaK,qcK,hqK,-⟩:=id ht.rKp
 have lKp:t.kept.length=s.kept.length:=by have:=congrArg (fun z=>z.kept.length) he;exact this.symm
 have EKp:Hid (EwKp w paK qaK s.kept.length):=EwKp.of hs ht he hz hpK hqK
 rw [lKp] at hqK
 obtain ⟨paL,pcL,hpL,-⟩:=id hs.rLs
 obtain ⟨qaL,qcL,hqL,-⟩:=id ht.rLs
 have lLs:t.listed.length=s.listed.length:=by have:=congrArg (fun z=>z.listed.length) he;simpa [St.e] using this.symm
 have ELs:Hid (EwLs w paL qaL s.listed.length):=EwLs.of hs ht he hz hpL hqL
 rw [lLs] at hqL
 obtain ⟨paG,pcG,hpG,-⟩:=id hs.rMs
 obtain ⟨qaG,qcG,hqG,-⟩:=id ht.rMs
 have lMs:t.msgs.length=s.msgs.length:=by have:=congrArg (fun z=>z.msgs.length) he;simpa [St.e] using this.symm
 have EMs:Hid (EwMs w paG qaG s.msgs.length):=EwMs.of hs ht he hz hpG hqG
 rw [lMs] at hqG
 have:=dSame_core s.pos s.done s.made paD qaD pcD qcD s.procs.length paI qaI pcI qcI s.insts.length paT qaT pcT qcT s.tokens.length paJ qaJ pcJ qcJ s.jobs.length paM qaM pcM qcM s.timers.length paS qaS pcS qcS s.subs.length paK qaK pcK qcK s.kept.length paL qaL pcL qcL s.listed.length paG qaG pcG qcG s.msgs.length (by have:=hz.nDe;omega) EDe (by have:=hz.nIn;omega) EIn (by have:=hz.nTk;omega) ETk (by have:=hz.nJb;omega) EJb (by have:=hz.nTm;omega) ETm (by have:=hz.nSb;omega) ESb (by have:=hz.nKp;omega) EKp (by have:=hz.nLs;omega) ELs (by have:=hz.nMs;omega) EMs
 simp only [St.c,e0,e1,e2,hpD,hqD,hpI,hqI,hpT,hqT,hpJ,hqJ,hpM,hqM,hpS,hqS,hpK,hqK,hpL,hqL,hpG,hqG]
 exact this
end Go.Proofs.YtmfempdcpoeicaaGreat.f13
