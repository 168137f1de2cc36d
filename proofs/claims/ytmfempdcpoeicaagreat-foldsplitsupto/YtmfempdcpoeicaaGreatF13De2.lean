/-
 slices.DeleteFunc,and package fold's takeAway: those that are so are taken away,in place.
-/
import Derived.Test.YtmfempdcpoeicaaGreatF13Del
import Derived.Test.YtmfempdcpoeicaaGreatF13Rows
import Derived.Test.YtmfempdcpoeicaaGreatF13Wi
set_option maxHeartbeats 4000000
set_option maxRecDepth 100000
namespace Go.Proofs.YtmfempdcpoeicaaGreat.f13
open Go.RowKit Go.Shelf Go.Sort
open Go.Lib hiding intOf

theorem delIn_any {B : Nat} {w : World} {v : Value} {l : List In} {kf : Nat} {caps : Array Value} (q : In → Bool) (h : w.ownsRow B 58 3 v l.length (l.flatMap In.c)) (hn : l.length ≤ 4611686018427387904) (ek : Ent0 kf) (hq : ∀ x ∈ l, Say (fun g => v.ownBlock = some g) w kf caps #[.agg (In.c x).toArray] (q x)) (h2 : ∀ x ∈ l, ∃ a n c, x.vv = .slice a n c) :
   Calls Tryz.prog 156 #[v,.func (.func kf) #[] caps] w fun e w'=>∃v',e=.returned v'∧w'.ownsRow B 58 3 v' (l.filter fun x=>!q x).length ((l.filter fun x=>!q x).flatMap In.c)∧Ch (fun g=>v.ownBlock=some g) w w'∧v'.ownBlock=v.ownBlock:=by
 have CI:=indexIn_any q (Rr.row In.k h) hn ek hq
 have HQ:Hid (∀x∈l,Say (fun g=>v.ownBlock=some g) w kf caps #[.agg (In.c x).toArray] (q x)):=hq
 unfold Ent0 at ek
 clear hq
 cases hF:l.findIdx? q with
 | none =>
   have e0:fix q l = -1:=by unfold fix;rw [hF]
   have HFl:Hid ((l.filter fun x=>!q x)=l):=by
     show _=_
     rw [List.filter_eq_self]
     intro x hx
     rw [List.findIdx?_eq_none_iff] at hF
     simp [hF x hx]
   have HR:Hid (w.ownsRow B 58 3 v l.length (l.flatMap In.c)):=h
   rw [e0] at CI
   obtain ⟨a,cp,hs,-⟩:=row_slice h
   clear h hF HQ e0
   subst hs
   go_enter Tryz.func156,Tryz.ntmps156
   go_wp2_with (go_at_call 127;refine CI.mono ?_;rintro e w1 ⟨rfl,b1⟩;(have HC:Hid (Ch (fun g=>(Value.slice a l.length cp).ownBlock=some g) w w1):=Ch.of_below b1);(have HR1:Hid (w1.ownsRow B 58 3 (.slice a l.length cp) l.length (l.flatMap In.c)):=(Ch.of_below (X:=fun _=>False) b1).row HR.out (fun _ _ e=>e));clear b1 CI)
   go_ret
   rw [HFl.out]
   exact ⟨_,rfl,HR1.out,HC.out,rfl⟩
 | some i0 =>
   have e0:fix q l=(i0:Int):=by unfold fix;rw [hF]
   obtain ⟨hi0,hqi,hqb⟩:=List.findIdx?_eq_some_iff_getElem.1 hF
   obtain ⟨g,cap,rfl,hcap⟩:=row_any h (by omega)
   have hcm:cap≤9223372036854775807:=by obtain ⟨_,_,e,-,-,h9⟩:=row_slice h;injection e with _ _ e;omega
   obtain ⟨i9,hi9,hz0,hz1,hz2⟩:=info_parts infoIn
   have HR:Hid (w.ownsRow B 58 3 (.slice (some ⟨g,0,none⟩) l.length cap) l.length (l.flatMap In.c)):=h
   have K0:(l.take i0).filter (fun x=>!q x)=l.take i0:=by
     rw [List.filter_eq_self]
     intro x hx
     obtain ⟨n,hn,rfl⟩:=List.getElem_of_mem hx
     rw [List.length_take] at hn
     have:=hqb n (by omega)
     rw [List.getElem_take]
     simpa using this
   have HS:Hid (∃mid:List In,mid.length=i0+1-i0∧((l.take (i0+1)).filter fun x=>!q x).length=i0∧w.ownsRow B 58 3 (.slice (some ⟨g,0,none⟩) l.length cap) l.length ((((l.take (i0+1)).filter fun x=>!q x)++mid++l.drop (i0+1)).flatMap In.c)):=by
     refine ⟨[l[i0]],by simp,?_,?_⟩
     · rw [filter_snoc hi0,K0,hqi];simp;omega
     · rw [filter_snoc hi0,K0,hqi]
       have:l.take i0++(if (!true)=true then [l[i0]] else [])++[l[i0]]++l.drop (i0+1)=l:=by simp
       rw [this];exact h
   rw [e0] at CI
   clear h hF K0 e0 hqb hqi
   have hw0:IntKind.i64.wrap ((i0:Int)+1)=(i0:Int)+1:=by rw [IntKind.wrap_i64];omega
   have hne:((i0:Int)==-1)=false:=by rw [beq_eq_false_iff_ne];omega
   have hne2:¬(i0:Int) = -1:=by omega
   go_enter Tryz.func156,Tryz.ntmps156
   go_wp2_with (go_at_call 127;refine CI.mono ?_;rintro e w1 ⟨rfl,b1⟩;(have HC:Hid (Ch (fun g'=>(some g:Option Nat)=some g') w w1∧∃mid:List In,mid.length=i0+1-i0∧((l.take (i0+1)).filter fun x=>!q x).length=i0∧w1.ownsRow B 58 3 (.slice (some ⟨g,0,none⟩) l.length cap) l.length ((((l.take (i0+1)).filter fun x=>!q x)++mid++l.drop (i0+1)).flatMap In.c)):=by (obtain ⟨mid,h1,h2,h3⟩:=HS.out;exact ⟨Ch.of_below b1,mid,h1,h2,(Ch.of_below (X:=fun _=>False) b1).row h3 (fun _ _ e=>e)⟩));clear b1 CI HS)
   go_loopw [5,6] (fun v5 v6 wr=>∃i j:Nat,v5=.int .i64 (i:Int)∧v6=.int .i64 (j:Int)∧i<j∧j≤l.length∧Hid (Ch (fun g'=>(some g:Option Nat)=some g') w wr∧∃mid:List In,mid.length=j-i∧((l.take j).filter fun x=>!q x).length=i∧wr.ownsRow B 58 3 (.slice (some ⟨g,0,none⟩) l.length cap) l.length ((((l.take j).filter fun x=>!q x)++mid++l.drop j).flatMap In.c))) (fun _ v6 _=>l.length-(intOf v6).toNat)
   case atStart=>exact ⟨i0,i0+1,rfl,by simp,by omega,by omega,HC.out⟩
   case round =>
     clear HC hne hne2 hw0
     obtain ⟨i,j,rfl,rfl,hij,hjl,HM⟩:=hrel
     by_cases hlt:j<l.length
     · have hlt':(j:Int)<(l.length:Int):=by omega
       have hj0:(0:Int)≤(j:Int):=by omega
       have hii:(0:Int)≤(i:Int):=by omega
       have hil:(i:Int)<(l.length:Int):=by omega
       obtain ⟨hC,mid,hmid,hKl,hrow⟩:=HM.out
       have hd:l.drop j=l[j]::l.drop (j+1):=(List.getElem_cons_drop (h:=hlt)).symm
       have hxj:(((l.take j).filter fun x=>!q x)++mid++l.drop j)[j]?=some l[j]:=by
         rw [List.getElem?_append_right (by simp;omega),List.length_append,hKl,hmid,hd,show j-(i+(j-i))=0 by omega];rfl
       have hXl:(((l.take j).filter fun x=>!q x)++mid++l.drop j).length=l.length:=by simp [hKl,hmid];omega
       have hiX:i<(((l.take j).filter fun x=>!q x)++mid++l.drop j).length:=by omega
       have m0:wr.cell? ⟨g,j*3+0,none⟩=some (.int .u64 (l[j].key:Int)):=row_cell hrow (by rw [fm_get In.k _ j 0 (by omega),hxj];rfl)
       have m1:wr.cell? ⟨g,j*3+1,none⟩=some (.string (S l[j].id)):=row_cell hrow (by rw [fm_get In.k _ j 1 (by omega),hxj];rfl)
       have m2:wr.cell? ⟨g,j*3+2,none⟩=some (l[j].vv):=row_cell hrow (by rw [fm_get In.k _ j 2 (by omega),hxj];rfl)
       simp only [Nat.add_zero] at m0
       have CG:=HQ.out l[j] (List.getElem_mem hlt)
       have HX:Hid (∀W,Ch (fun _=>False) wr W→W.ownsRow B 58 3 (.slice (some ⟨g,0,none⟩) l.length cap) l.length ((((l.take j).filter fun x=>!q x)++mid++l.drop j).flatMap In.c)∧Ch (fun g'=>(some g:Option Nat)=some g') w W):=fun W hW=>⟨hW.row hrow (fun _ _ e=>e),hC.trans (hW.mono (fun _ _ e=>e.elim))⟩
       by_cases hx:q l[j]=true
       · have HN:Hid (∀W,Ch (fun _=>False) wr W→Ch (fun g'=>(some g:Option Nat)=some g') w W∧∃mid:List In,mid.length=j+1-i∧((l.take (j+1)).filter fun x=>!q x).length=i∧W.ownsRow B 58 3 (.slice (some ⟨g,0,none⟩) l.length cap) l.length ((((l.take (j+1)).filter fun x=>!q x)++mid++l.drop (j+1)).flatMap In.c)):=by
           intro W hW
           obtain ⟨r1,c1⟩:=HX.out W hW
           refine ⟨c1,mid++[l[j]],by simp;omega,by rw [filter_snoc hlt,hx];simpa using hKl,?_⟩
           rw [filter_snoc hlt,hx]
           have:((l.take j).filter fun x=>!q x)++(if (!true)=true then [l[j]] else [])++(mid++[l[j]])++l.drop (j+1)=((l.take j).filter fun x=>!q x)++mid++l.drop j:=by rw [hd];simp
           rw [this]
           exact r1
         have CH:=HX
         rw [hx] at CG
         clear hx HM hrow hC hxj hXl hd hKl hmid hiX
         obtain ⟨sa2,sn2,sc2,hs2⟩:=h2 l[j] (List.getElem_mem hlt)
         generalize l[j]=x at CG HX m0 m1 m2 HN hs2
         obtain ⟨x0,x1,x2,_⟩:=x
         simp only at hs2
         subst hs2
         simp only [In.c] at m0 m1 m2 CG
         have CG1:=CG _ (HX.out (wr.alloc (.cells #[.int .u64 (x0:Int),.string (S x1),.slice sa2 sn2 sc2] 58)) ((Ch.refl _ wr).alloc _)).2
         clear CG
         go_wp2
         refine CG1.mono ?_
         rintro e w2 ⟨rfl,b2⟩
         have H3:Hid _:=HN.out w2 (((Ch.refl _ wr).alloc _).trans (Ch.of_below b2))
         clear CG1 HN b2 HX CH
         go_wp2
         go_roundw
         case rel=>exact ⟨i,j+1,rfl,by simp,by omega,by omega,H3.out⟩
         case measure=>simp [intOf];omega
       · have hx':q l[j]=false:=by simpa using hx
         have HN:Hid (∀W,Ch (fun _=>False) wr W→Ch (fun g'=>(some g:Option Nat)=some g') w (W.setCells g (i*3) (In.c l[j]))∧∃mid:List In,mid.length=j+1-(i+1)∧((l.take (j+1)).filter fun x=>!q x).length=i+1∧(W.setCells g (i*3) (In.c l[j])).ownsRow B 58 3 (.slice (some ⟨g,0,none⟩) l.length cap) l.length ((((l.take (j+1)).filter fun x=>!q x)++mid++l.drop (j+1)).flatMap In.c)):=by
           intro W hW
           obtain ⟨r1,c1⟩:=HX.out W hW
           refine ⟨ch_setCells c1 g _ _ (fun _=>rfl),mid.tail++[l[j]],by simp;omega,by rw [filter_snoc hlt,hx'];simp [hKl],?_⟩
           have:=row_elem In.k r1 i hiX l[j]
           have e2:(((l.take j).filter fun x=>!q x)++mid++l.drop j).set i l[j]=(((l.take (j+1)).filter fun x=>!q x)++(mid.tail++[l[j]])++l.drop (j+1)):=by
             rw [filter_snoc hlt,hx',hd,← hKl,set_gap (by omega)];rfl
           rw [e2] at this
           exact this
         have HF:Hid (∀W,Ch (fun _=>False) wr W→(W.cell? ⟨g,i*3+0,none⟩).isSome=true∧W.frozen? ⟨g,i*3+0,none⟩=false∧(W.cell? ⟨g,i*3+1,none⟩).isSome=true∧W.frozen? ⟨g,i*3+1,none⟩=false∧(W.cell? ⟨g,i*3+2,none⟩).isSome=true∧W.frozen? ⟨g,i*3+2,none⟩=false):=by
           intro W hW
           have r1:=(HX.out W hW).1
           have cc:∀n,n<3→(W.cell? ⟨g,i*3+n,none⟩).isSome=true:=fun n hn=>by
             have e3:((((l.take j).filter fun x=>!q x)++mid++l.drop j).flatMap In.c)[i*3+n]?=some ((In.c ((((l.take j).filter fun x=>!q x)++mid++l.drop j)[i]))[n]'(by rw [In.k];exact hn)):=by
               rw [fm_get In.k _ i n hn,List.getElem?_eq_getElem hiX]
               exact List.getElem?_eq_getElem _
             rw [row_cell r1 e3];rfl
           exact ⟨cc 0 (by omega),row_fro r1 _,cc 1 (by omega),row_fro r1 _,cc 2 (by omega),row_fro r1 _⟩
         rw [hx'] at CG
         clear hx hx' HM hrow hC hxj hXl hd hKl hmid hiX
         obtain ⟨sa2,sn2,sc2,hs2⟩:=h2 l[j] (List.getElem_mem hlt)
         generalize l[j]=x at CG HX m0 m1 m2 HN hs2
         obtain ⟨x0,x1,x2,_⟩:=x
         simp only at hs2
         subst hs2
         simp only [In.c] at m0 m1 m2 CG
         have CG1:=CG _ (HX.out (wr.alloc (.cells #[.int .u64 (x0:Int),.string (S x1),.slice sa2 sn2 sc2] 58)) ((Ch.refl _ wr).alloc _)).2
         clear CG
         go_wp2
         refine CG1.mono ?_
         rintro e w2 ⟨rfl,b2⟩
         have HW2:Ch (fun _=>False) wr w2:=((Ch.refl _ wr).alloc _).trans (Ch.of_below b2)
         have H3:Hid _:=HN.out w2 HW2
         obtain ⟨p0,f0,p1,f1,p2,f2⟩:=HF.out w2 HW2
         have y0:=(b2.cell (p:=⟨wr.heap.size,0,none⟩) (by simp)).trans (World.cell?_alloc_new wr _ _ _)
         have y1:=(b2.cell (p:=⟨wr.heap.size,1,none⟩) (by simp)).trans (World.cell?_alloc_new wr _ _ _)
         have y2:=(b2.cell (p:=⟨wr.heap.size,2,none⟩) (by simp)).trans (World.cell?_alloc_new wr _ _ _)
         simp only [Nat.add_zero,List.getElem?_toArray,List.getElem?_cons_zero,List.getElem?_cons_succ] at p0 f0 y0 y1 y2
         obtain ⟨u0,p0⟩:=Option.isSome_iff_exists.1 p0
         obtain ⟨u1,p1⟩:=Option.isSome_iff_exists.1 p1
         obtain ⟨u2,p2⟩:=Option.isSome_iff_exists.1 p2
         have hw1:IntKind.i64.wrap ((i:Int)+1)=(i:Int)+1:=by rw [IntKind.wrap_i64];omega
         clear CG1 HN b2 HX HF HW2
         go_wp2
         go_roundw
         case rel=>exact ⟨i+1,j+1,by simp,by simp,by omega,by omega,H3.out⟩
         case measure=>simp [intOf];omega
     · have hlt':¬(j:Int)<(l.length:Int):=by omega
       obtain rfl:j=l.length:=by omega
       obtain ⟨hC,mid,hmid,hKl,hrow⟩:=HM.out
       rw [List.take_length] at hKl hrow
       rw [List.drop_length,List.append_nil,List.flatMap_append] at hrow
       have hzl:=zero_len (.agg #[.int .u64 0,.string ⟨#[]⟩,.slice none 0 0]) 3 rfl (l.length-i)
       have hz1':=zero_one (z:=.agg #[.int .u64 0,.string ⟨#[]⟩,.slice none 0 0]) (k:=3) rfl (by decide) (by decide) (l.length-i)
       have hlen:=hrow.1
       have hcl:Hid (∀ty cc,(Builtin.clear_ #[24] ty #[.slice (some ⟨g,i*3,none⟩) (l.length-i) cc]).run Tryz.prog wr=.ok (.tuple #[]) (wr.setCells g (i*3) (Builtin.zeroCells (.agg #[.int .u64 0,.string ⟨#[]⟩,.slice none 0 0]:Value).cells (l.length-i)).toList)):=fun ty cc =>
         run_clearN wr _ _ ty _ Tryz.underlying24 Tryz.zeroValue58 g (i*3) (l.length-i) cc (by omega) _ rfl hz1' (fun t ht=>by
           have hlt:i*3+t<(List.flatMap In.c (List.filter (fun x=>!q x) l)++List.flatMap In.c mid).length:=by rw [hlen];omega
           rw [row_cell hrow (List.getElem?_eq_getElem hlt)];rfl) (fun t ht=>row_fro hrow _)
       have HE:Hid ((wr.setCells g (i*3) (Builtin.zeroCells (.agg #[.int .u64 0,.string ⟨#[]⟩,.slice none 0 0]:Value).cells (l.length-i)).toList).ownsRow B 58 3 (.slice (some ⟨g,0,none⟩) i cap) (l.filter fun x=>!q x).length ((l.filter fun x=>!q x).flatMap In.c)∧Ch (fun g'=>(some g:Option Nat)=some g') w (wr.setCells g (i*3) (Builtin.zeroCells (.agg #[.int .u64 0,.string ⟨#[]⟩,.slice none 0 0]:Value).cells (l.length-i)).toList)):=by
         have r2:=row_puts hrow (i*3) (Builtin.zeroCells (.agg #[.int .u64 0,.string ⟨#[]⟩,.slice none 0 0]:Value).cells (l.length-i)).toList (by rw [hzl,hlen];omega)
         have e5:(List.flatMap In.c (List.filter (fun x=>!q x) l)++List.flatMap In.c mid).take (i*3)=List.flatMap In.c (List.filter (fun x=>!q x) l):=by
           rw [List.take_append_of_le_length (by rw [fm_len In.k,hKl];exact nlr),List.take_of_length_le (by rw [fm_len In.k,hKl];exact nlr)]
         rw [e5,List.append_assoc] at r2
         refine ⟨?_,ch_setCells hC g _ _ (fun _=>rfl)⟩
         rw [hKl]
         exact row_cut r2 (by rw [fm_len In.k,hKl]) (by omega)
       clear HM hrow hC hzl hz1' hlen hmid HQ HR hKl
       have hil:(i:Int)≤(l.length:Int):=by omega
       have hii:(0:Int)≤(i:Int):=by omega
       have hic:¬cap=i:=by omega
       have hlc:(l.length:Int)≤(cap:Int):=by omega
       have hil2:i≤l.length:=by omega
       generalize (Builtin.zeroCells (.agg #[.int .u64 0,.string ⟨#[]⟩,.slice none 0 0]:Value).cells (l.length-i)).toList=zz at *
       have hcl2:=hcl.out
       clear hcl
       go_wp2
       go_ret
       exact ⟨.slice (some ⟨g,0,none⟩) i cap,rfl,HE.out.1,HE.out.2,rfl⟩

theorem delLs_any {B : Nat} {w : World} {v : Value} {l : List Ls} {kf : Nat} {caps : Array Value} (q : Ls → Bool) (h : w.ownsRow B 81 7 v l.length (l.flatMap Ls.c)) (hn : l.length ≤ 4611686018427387904) (ek : Ent0 kf) (hq : ∀ x ∈ l, Say (fun g => v.ownBlock = some g) w kf caps #[.agg (Ls.c x).toArray] (q x)) (h6 : ∀ x ∈ l, ∃ a n c, x.vv = .slice a n c) :
   Calls Tryz.prog 170 #[v,.func (.func kf) #[] caps] w fun e w'=>∃v',e=.returned v'∧w'.ownsRow B 81 7 v' (l.filter fun x=>!q x).length ((l.filter fun x=>!q x).flatMap Ls.c)∧Ch (fun g=>v.ownBlock=some g) w w'∧v'.ownBlock=v.ownBlock:=by
 have CI:=indexLs_any q (Rr.row Ls.k h) hn ek hq
 have HQ:Hid (∀x∈l,Say (fun g=>v.ownBlock=some g) w kf caps #[.agg (Ls.c x).toArray] (q x)):=hq
 unfold Ent0 at ek
 clear hq
 cases hF:l.findIdx? q with
 | none =>
   have e0:fix q l = -1:=by unfold fix;rw [hF]
   have HFl:Hid ((l.filter fun x=>!q x)=l):=by
     show _=_
     rw [List.filter_eq_self]
     intro x hx
     rw [List.findIdx?_eq_none_iff] at hF
     simp [hF x hx]
   have HR:Hid (w.ownsRow B 81 7 v l.length (l.flatMap Ls.c)):=h
   rw [e0] at CI
   obtain ⟨a,cp,hs,-⟩:=row_slice h
   clear h hF HQ e0
   subst hs
   go_enter Tryz.func170,Tryz.ntmps170
   go_wp2_with (go_at_call 161;refine CI.mono ?_;rintro e w1 ⟨rfl,b1⟩;(have HC:Hid (Ch (fun g=>(Value.slice a l.length cp).ownBlock=some g) w w1):=Ch.of_below b1);(have HR1:Hid (w1.ownsRow B 81 7 (.slice a l.length cp) l.length (l.flatMap Ls.c)):=(Ch.of_below (X:=fun _=>False) b1).row HR.out (fun _ _ e=>e));clear b1 CI)
   go_ret
   rw [HFl.out]
   exact ⟨_,rfl,HR1.out,HC.out,rfl⟩
 | some i0 =>
   have e0:fix q l=(i0:Int):=by unfold fix;rw [hF]
   obtain ⟨hi0,hqi,hqb⟩:=List.findIdx?_eq_some_iff_getElem.1 hF
   obtain ⟨g,cap,rfl,hcap⟩:=row_any h (by omega)
   have hcm:cap≤9223372036854775807:=by obtain ⟨_,_,e,-,-,h9⟩:=row_slice h;injection e with _ _ e;omega
   obtain ⟨i9,hi9,hz0,hz1,hz2⟩:=info_parts infoLs
   have HR:Hid (w.ownsRow B 81 7 (.slice (some ⟨g,0,none⟩) l.length cap) l.length (l.flatMap Ls.c)):=h
   have K0:(l.take i0).filter (fun x=>!q x)=l.take i0:=by
     rw [List.filter_eq_self]
     intro x hx
     obtain ⟨n,hn,rfl⟩:=List.getElem_of_mem hx
     rw [List.length_take] at hn
     have:=hqb n (by omega)
     rw [List.getElem_take]
     simpa using this
   have HS:Hid (∃mid:List Ls,mid.length=i0+1-i0∧((l.take (i0+1)).filter fun x=>!q x).length=i0∧w.ownsRow B 81 7 (.slice (some ⟨g,0,none⟩) l.length cap) l.length ((((l.take (i0+1)).filter fun x=>!q x)++mid++l.drop (i0+1)).flatMap Ls.c)):=by
     refine ⟨[l[i0]],by simp,?_,?_⟩
     · rw [filter_snoc hi0,K0,hqi];simp;omega
     · rw [filter_snoc hi0,K0,hqi]
       have:l.take i0++(if (!true)=true then [l[i0]] else [])++[l[i0]]++l.drop (i0+1)=l:=by simp
       rw [this];exact h
   rw [e0] at CI
   clear h hF K0 e0 hqb hqi
   have hw0:IntKind.i64.wrap ((i0:Int)+1)=(i0:Int)+1:=by rw [IntKind.wrap_i64];omega
   have hne:((i0:Int)==-1)=false:=by rw [beq_eq_false_iff_ne];omega
   have hne2:¬(i0:Int) = -1:=by omega
   go_enter Tryz.func170,Tryz.ntmps170
   go_wp2_with (go_at_call 161;refine CI.mono ?_;rintro e w1 ⟨rfl,b1⟩;(have HC:Hid (Ch (fun g'=>(some g:Option Nat)=some g') w w1∧∃mid:List Ls,mid.length=i0+1-i0∧((l.take (i0+1)).filter fun x=>!q x).length=i0∧w1.ownsRow B 81 7 (.slice (some ⟨g,0,none⟩) l.length cap) l.length ((((l.take (i0+1)).filter fun x=>!q x)++mid++l.drop (i0+1)).flatMap Ls.c)):=by (obtain ⟨mid,h1,h2,h3⟩:=HS.out;exact ⟨Ch.of_below b1,mid,h1,h2,(Ch.of_below (X:=fun _=>False) b1).row h3 (fun _ _ e=>e)⟩));clear b1 CI HS)
   go_loopw [5,6] (fun v5 v6 wr=>∃i j:Nat,v5=.int .i64 (i:Int)∧v6=.int .i64 (j:Int)∧i<j∧j≤l.length∧Hid (Ch (fun g'=>(some g:Option Nat)=some g') w wr∧∃mid:List Ls,mid.length=j-i∧((l.take j).filter fun x=>!q x).length=i∧wr.ownsRow B 81 7 (.slice (some ⟨g,0,none⟩) l.length cap) l.length ((((l.take j).filter fun x=>!q x)++mid++l.drop j).flatMap Ls.c))) (fun _ v6 _=>l.length-(intOf v6).toNat)
   case atStart=>exact ⟨i0,i0+1,rfl,by simp,by omega,by omega,HC.out⟩
   case round =>
     clear HC hne hne2 hw0
     obtain ⟨i,j,rfl,rfl,hij,hjl,HM⟩:=hrel
     by_cases hlt:j<l.length
     · have hlt':(j:Int)<(l.length:Int):=by omega
       have hj0:(0:Int)≤(j:Int):=by omega
       have hii:(0:Int)≤(i:Int):=by omega
       have hil:(i:Int)<(l.length:Int):=by omega
       obtain ⟨hC,mid,hmid,hKl,hrow⟩:=HM.out
       have hd:l.drop j=l[j]::l.drop (j+1):=(List.getElem_cons_drop (h:=hlt)).symm
       have hxj:(((l.take j).filter fun x=>!q x)++mid++l.drop j)[j]?=some l[j]:=by
         rw [List.getElem?_append_right (by simp;omega),List.length_append,hKl,hmid,hd,show j-(i+(j-i))=0 by omega];rfl
       have hXl:(((l.take j).filter fun x=>!q x)++mid++l.drop j).length=l.length:=by simp [hKl,hmid];omega
       have hiX:i<(((l.take j).filter fun x=>!q x)++mid++l.drop j).length:=by omega
       have m0:wr.cell? ⟨g,j*7+0,none⟩=some (.int .u64 (l[j].token:Int)):=row_cell hrow (by rw [fm_get Ls.k _ j 0 (by omega),hxj];rfl)
       have m1:wr.cell? ⟨g,j*7+1,none⟩=some (.int .u64 (l[j].inst:Int)):=row_cell hrow (by rw [fm_get Ls.k _ j 1 (by omega),hxj];rfl)
       have m2:wr.cell? ⟨g,j*7+2,none⟩=some (.int .i64 l[j].node):=row_cell hrow (by rw [fm_get Ls.k _ j 2 (by omega),hxj];rfl)
       have m3:wr.cell? ⟨g,j*7+3,none⟩=some (.string (S l[j].name)):=row_cell hrow (by rw [fm_get Ls.k _ j 3 (by omega),hxj];rfl)
       have m4:wr.cell? ⟨g,j*7+4,none⟩=some (.string (S l[j].key)):=row_cell hrow (by rw [fm_get Ls.k _ j 4 (by omega),hxj];rfl)
       have m5:wr.cell? ⟨g,j*7+5,none⟩=some (.int .u64 (l[j].msg:Int)):=row_cell hrow (by rw [fm_get Ls.k _ j 5 (by omega),hxj];rfl)
       have m6:wr.cell? ⟨g,j*7+6,none⟩=some (l[j].vv):=row_cell hrow (by rw [fm_get Ls.k _ j 6 (by omega),hxj];rfl)
       simp only [Nat.add_zero] at m0
       have CG:=HQ.out l[j] (List.getElem_mem hlt)
       have HX:Hid (∀W,Ch (fun _=>False) wr W→W.ownsRow B 81 7 (.slice (some ⟨g,0,none⟩) l.length cap) l.length ((((l.take j).filter fun x=>!q x)++mid++l.drop j).flatMap Ls.c)∧Ch (fun g'=>(some g:Option Nat)=some g') w W):=fun W hW=>⟨hW.row hrow (fun _ _ e=>e),hC.trans (hW.mono (fun _ _ e=>e.elim))⟩
       by_cases hx:q l[j]=true
       · have HN:Hid (∀W,Ch (fun _=>False) wr W→Ch (fun g'=>(some g:Option Nat)=some g') w W∧∃mid:List Ls,mid.length=j+1-i∧((l.take (j+1)).filter fun x=>!q x).length=i∧W.ownsRow B 81 7 (.slice (some ⟨g,0,none⟩) l.length cap) l.length ((((l.take (j+1)).filter fun x=>!q x)++mid++l.drop (j+1)).flatMap Ls.c)):=by
           intro W hW
           obtain ⟨r1,c1⟩:=HX.out W hW
           refine ⟨c1,mid++[l[j]],by simp;omega,by rw [filter_snoc hlt,hx];simpa using hKl,?_⟩
           rw [filter_snoc hlt,hx]
           have:((l.take j).filter fun x=>!q x)++(if (!true)=true then [l[j]] else [])++(mid++[l[j]])++l.drop (j+1)=((l.take j).filter fun x=>!q x)++mid++l.drop j:=by rw [hd];simp
           rw [this]
           exact r1
         have CH:=HX
         rw [hx] at CG
         clear hx HM hrow hC hxj hXl hd hKl hmid hiX
         obtain ⟨sa6,sn6,sc6,hs6⟩:=h6 l[j] (List.getElem_mem hlt)
         generalize l[j]=x at CG HX m0 m1 m2 m3 m4 m5 m6 HN hs6
         obtain ⟨x0,x1,x2,x3,x4,x5,x6,_⟩:=x
         simp only at hs6
         subst hs6
         simp only [Ls.c] at m0 m1 m2 m3 m4 m5 m6 CG
         have CG1:=CG _ (HX.out (wr.alloc (.cells #[.int .u64 (x0:Int),.int .u64 (x1:Int),.int .i64 x2,.string (S x3),.string (S x4),.int .u64 (x5:Int),.slice sa6 sn6 sc6] 81)) ((Ch.refl _ wr).alloc _)).2
         clear CG
         go_wp2
         refine CG1.mono ?_
         rintro e w2 ⟨rfl,b2⟩
         have H3:Hid _:=HN.out w2 (((Ch.refl _ wr).alloc _).trans (Ch.of_below b2))
         clear CG1 HN b2 HX CH
         go_wp2
         go_roundw
         case rel=>exact ⟨i,j+1,rfl,by simp,by omega,by omega,H3.out⟩
         case measure=>simp [intOf];omega
       · have hx':q l[j]=false:=by simpa using hx
         have HN:Hid (∀W,Ch (fun _=>False) wr W→Ch (fun g'=>(some g:Option Nat)=some g') w (W.setCells g (i*7) (Ls.c l[j]))∧∃mid:List Ls,mid.length=j+1-(i+1)∧((l.take (j+1)).filter fun x=>!q x).length=i+1∧(W.setCells g (i*7) (Ls.c l[j])).ownsRow B 81 7 (.slice (some ⟨g,0,none⟩) l.length cap) l.length ((((l.take (j+1)).filter fun x=>!q x)++mid++l.drop (j+1)).flatMap Ls.c)):=by
           intro W hW
           obtain ⟨r1,c1⟩:=HX.out W hW
           refine ⟨ch_setCells c1 g _ _ (fun _=>rfl),mid.tail++[l[j]],by simp;omega,by rw [filter_snoc hlt,hx'];simp [hKl],?_⟩
           have:=row_elem Ls.k r1 i hiX l[j]
           have e2:(((l.take j).filter fun x=>!q x)++mid++l.drop j).set i l[j]=(((l.take (j+1)).filter fun x=>!q x)++(mid.tail++[l[j]])++l.drop (j+1)):=by
             rw [filter_snoc hlt,hx',hd,← hKl,set_gap (by omega)];rfl
           rw [e2] at this
           exact this
         have HF:Hid (∀W,Ch (fun _=>False) wr W→(W.cell? ⟨g,i*7+0,none⟩).isSome=true∧W.frozen? ⟨g,i*7+0,none⟩=false∧(W.cell? ⟨g,i*7+1,none⟩).isSome=true∧W.frozen? ⟨g,i*7+1,none⟩=false∧(W.cell? ⟨g,i*7+2,none⟩).isSome=true∧W.frozen? ⟨g,i*7+2,none⟩=false∧(W.cell? ⟨g,i*7+3,none⟩).isSome=true∧W.frozen? ⟨g,i*7+3,none⟩=false∧(W.cell? ⟨g,i*7+4,none⟩).isSome=true∧W.frozen? ⟨g,i*7+4,none⟩=false∧(W.cell? ⟨g,i*7+5,none⟩).isSome=true∧W.frozen? ⟨g,i*7+5,none⟩=false∧(W.cell? ⟨g,i*7+6,none⟩).isSome=true∧W.frozen? ⟨g,i*7+6,none⟩=false):=by
           intro W hW
           have r1:=(HX.out W hW).1
           have cc:∀n,n<7→(W.cell? ⟨g,i*7+n,none⟩).isSome=true:=fun n hn=>by
             have e3:((((l.take j).filter fun x=>!q x)++mid++l.drop j).flatMap Ls.c)[i*7+n]?=some ((Ls.c ((((l.take j).filter fun x=>!q x)++mid++l.drop j)[i]))[n]'(by rw [Ls.k];exact hn)):=by
               rw [fm_get Ls.k _ i n hn,List.getElem?_eq_getElem hiX]
               exact List.getElem?_eq_getElem _
             rw [row_cell r1 e3];rfl
           exact ⟨cc 0 (by omega),row_fro r1 _,cc 1 (by omega),row_fro r1 _,cc 2 (by omega),row_fro r1 _,cc 3 (by omega),row_fro r1 _,cc 4 (by omega),row_fro r1 _,cc 5 (by omega),row_fro r1 _,cc 6 (by omega),row_fro r1 _⟩
         rw [hx'] at CG
         clear hx hx' HM hrow hC hxj hXl hd hKl hmid hiX
         obtain ⟨sa6,sn6,sc6,hs6⟩:=h6 l[j] (List.getElem_mem hlt)
         generalize l[j]=x at CG HX m0 m1 m2 m3 m4 m5 m6 HN hs6
         obtain ⟨x0,x1,x2,x3,x4,x5,x6,_⟩:=x
         simp only at hs6
         subst hs6
         simp only [Ls.c] at m0 m1 m2 m3 m4 m5 m6 CG
         have CG1:=CG _ (HX.out (wr.alloc (.cells #[.int .u64 (x0:Int),.int .u64 (x1:Int),.int .i64 x2,.string (S x3),.string (S x4),.int .u64 (x5:Int),.slice sa6 sn6 sc6] 81)) ((Ch.refl _ wr).alloc _)).2
         clear CG
         go_wp2
         refine CG1.mono ?_
         rintro e w2 ⟨rfl,b2⟩
         have HW2:Ch (fun _=>False) wr w2:=((Ch.refl _ wr).alloc _).trans (Ch.of_below b2)
         have H3:Hid _:=HN.out w2 HW2
         obtain ⟨p0,f0,p1,f1,p2,f2,p3,f3,p4,f4,p5,f5,p6,f6⟩:=HF.out w2 HW2
         have y0:=(b2.cell (p:=⟨wr.heap.size,0,none⟩) (by simp)).trans (World.cell?_alloc_new wr _ _ _)
         have y1:=(b2.cell (p:=⟨wr.heap.size,1,none⟩) (by simp)).trans (World.cell?_alloc_new wr _ _ _)
         have y2:=(b2.cell (p:=⟨wr.heap.size,2,none⟩) (by simp)).trans (World.cell?_alloc_new wr _ _ _)
         have y3:=(b2.cell (p:=⟨wr.heap.size,3,none⟩) (by simp)).trans (World.cell?_alloc_new wr _ _ _)
         have y4:=(b2.cell (p:=⟨wr.heap.size,4,none⟩) (by simp)).trans (World.cell?_alloc_new wr _ _ _)
         have y5:=(b2.cell (p:=⟨wr.heap.size,5,none⟩) (by simp)).trans (World.cell?_alloc_new wr _ _ _)
         have y6:=(b2.cell (p:=⟨wr.heap.size,6,none⟩) (by simp)).trans (World.cell?_alloc_new wr _ _ _)
         simp only [Nat.add_zero,List.getElem?_toArray,List.getElem?_cons_zero,List.getElem?_cons_succ] at p0 f0 y0 y1 y2 y3 y4 y5 y6
         obtain ⟨u0,p0⟩:=Option.isSome_iff_exists.1 p0
         obtain ⟨u1,p1⟩:=Option.isSome_iff_exists.1 p1
         obtain ⟨u2,p2⟩:=Option.isSome_iff_exists.1 p2
         obtain ⟨u3,p3⟩:=Option.isSome_iff_exists.1 p3
         obtain ⟨u4,p4⟩:=Option.isSome_iff_exists.1 p4
         obtain ⟨u5,p5⟩:=Option.isSome_iff_exists.1 p5
         obtain ⟨u6,p6⟩:=Option.isSome_iff_exists.1 p6
         have hw1:IntKind.i64.wrap ((i:Int)+1)=(i:Int)+1:=by rw [IntKind.wrap_i64];omega
         clear CG1 HN b2 HX HF HW2
         go_wp2
         go_roundw
         case rel=>exact ⟨i+1,j+1,by simp,by simp,by omega,by omega,H3.out⟩
         case measure=>simp [intOf];omega
     · have hlt':¬(j:Int)<(l.length:Int):=by omega
       obtain rfl:j=l.length:=by omega
       obtain ⟨hC,mid,hmid,hKl,hrow⟩:=HM.out
       rw [List.take_length] at hKl hrow
       rw [List.drop_length,List.append_nil,List.flatMap_append] at hrow
       have hzl:=zero_len (.agg #[.int .u64 0,.int .u64 0,.int .i64 0,.string ⟨#[]⟩,.string ⟨#[]⟩,.int .u64 0,.slice none 0 0]) 7 rfl (l.length-i)
       have hz1':=zero_one (z:=.agg #[.int .u64 0,.int .u64 0,.int .i64 0,.string ⟨#[]⟩,.string ⟨#[]⟩,.int .u64 0,.slice none 0 0]) (k:=7) rfl (by decide) (by decide) (l.length-i)
       have hlen:=hrow.1
       have hcl:Hid (∀ty cc,(Builtin.clear_ #[30] ty #[.slice (some ⟨g,i*7,none⟩) (l.length-i) cc]).run Tryz.prog wr=.ok (.tuple #[]) (wr.setCells g (i*7) (Builtin.zeroCells (.agg #[.int .u64 0,.int .u64 0,.int .i64 0,.string ⟨#[]⟩,.string ⟨#[]⟩,.int .u64 0,.slice none 0 0]:Value).cells (l.length-i)).toList)):=fun ty cc =>
         run_clearN wr _ _ ty _ Tryz.underlying30 Tryz.zeroValue81 g (i*7) (l.length-i) cc (by omega) _ rfl hz1' (fun t ht=>by
           have hlt:i*7+t<(List.flatMap Ls.c (List.filter (fun x=>!q x) l)++List.flatMap Ls.c mid).length:=by rw [hlen];omega
           rw [row_cell hrow (List.getElem?_eq_getElem hlt)];rfl) (fun t ht=>row_fro hrow _)
       have HE:Hid ((wr.setCells g (i*7) (Builtin.zeroCells (.agg #[.int .u64 0,.int .u64 0,.int .i64 0,.string ⟨#[]⟩,.string ⟨#[]⟩,.int .u64 0,.slice none 0 0]:Value).cells (l.length-i)).toList).ownsRow B 81 7 (.slice (some ⟨g,0,none⟩) i cap) (l.filter fun x=>!q x).length ((l.filter fun x=>!q x).flatMap Ls.c)∧Ch (fun g'=>(some g:Option Nat)=some g') w (wr.setCells g (i*7) (Builtin.zeroCells (.agg #[.int .u64 0,.int .u64 0,.int .i64 0,.string ⟨#[]⟩,.string ⟨#[]⟩,.int .u64 0,.slice none 0 0]:Value).cells (l.length-i)).toList)):=by
         have r2:=row_puts hrow (i*7) (Builtin.zeroCells (.agg #[.int .u64 0,.int .u64 0,.int .i64 0,.string ⟨#[]⟩,.string ⟨#[]⟩,.int .u64 0,.slice none 0 0]:Value).cells (l.length-i)).toList (by rw [hzl,hlen];omega)
         have e5:(List.flatMap Ls.c (List.filter (fun x=>!q x) l)++List.flatMap Ls.c mid).take (i*7)=List.flatMap Ls.c (List.filter (fun x=>!q x) l):=by
           rw [List.take_append_of_le_length (by rw [fm_len Ls.k,hKl];exact nlr),List.take_of_length_le (by rw [fm_len Ls.k,hKl];exact nlr)]
         rw [e5,List.append_assoc] at r2
         refine ⟨?_,ch_setCells hC g _ _ (fun _=>rfl)⟩
         rw [hKl]
         exact row_cut r2 (by rw [fm_len Ls.k,hKl]) (by omega)
       clear HM hrow hC hzl hz1' hlen hmid HQ HR hKl
       have hil:(i:Int)≤(l.length:Int):=by omega
       have hii:(0:Int)≤(i:Int):=by omega
       have hic:¬cap=i:=by omega
       have hlc:(l.length:Int)≤(cap:Int):=by omega
       have hil2:i≤l.length:=by omega
       generalize (Builtin.zeroCells (.agg #[.int .u64 0,.int .u64 0,.int .i64 0,.string ⟨#[]⟩,.string ⟨#[]⟩,.int .u64 0,.slice none 0 0]:Value).cells (l.length-i)).toList=zz at *
       have hcl2:=hcl.out
       clear hcl
       go_wp2
       go_ret
       exact ⟨.slice (some ⟨g,0,none⟩) i cap,rfl,HE.out.1,HE.out.2,rfl⟩

theorem delMs_any {B : Nat} {w : World} {v : Value} {l : List Ms} {kf : Nat} {caps : Array Value} (q : Ms → Bool) (h : w.ownsRow B 87 7 v l.length (l.flatMap Ms.c)) (hn : l.length ≤ 4611686018427387904) (ek : Ent0 kf) (hq : ∀ x ∈ l, Say (fun g => v.ownBlock = some g) w kf caps #[.agg (Ms.c x).toArray] (q x)) (h5 : ∀ x ∈ l, ∃ a n c, x.vv = .slice a n c) (h6 : ∀ x ∈ l, ∃ a n c, x.iv = .slice a n c) :
   Calls Tryz.prog 167 #[v,.func (.func kf) #[] caps] w fun e w'=>∃v',e=.returned v'∧w'.ownsRow B 87 7 v' (l.filter fun x=>!q x).length ((l.filter fun x=>!q x).flatMap Ms.c)∧Ch (fun g=>v.ownBlock=some g) w w'∧v'.ownBlock=v.ownBlock:=by
 have CI:=indexMs_any q (Rr.row Ms.k h) hn ek hq
 have HQ:Hid (∀x∈l,Say (fun g=>v.ownBlock=some g) w kf caps #[.agg (Ms.c x).toArray] (q x)):=hq
 unfold Ent0 at ek
 clear hq
 cases hF:l.findIdx? q with
 | none =>
   have e0:fix q l = -1:=by unfold fix;rw [hF]
   have HFl:Hid ((l.filter fun x=>!q x)=l):=by
     show _=_
     rw [List.filter_eq_self]
     intro x hx
     rw [List.findIdx?_eq_none_iff] at hF
     simp [hF x hx]
   have HR:Hid (w.ownsRow B 87 7 v l.length (l.flatMap Ms.c)):=h
   rw [e0] at CI
   obtain ⟨a,cp,hs,-⟩:=row_slice h
   clear h hF HQ e0
   subst hs
   go_enter Tryz.func167,Tryz.ntmps167
   go_wp2_with (go_at_call 164;refine CI.mono ?_;rintro e w1 ⟨rfl,b1⟩;(have HC:Hid (Ch (fun g=>(Value.slice a l.length cp).ownBlock=some g) w w1):=Ch.of_below b1);(have HR1:Hid (w1.ownsRow B 87 7 (.slice a l.length cp) l.length (l.flatMap Ms.c)):=(Ch.of_below (X:=fun _=>False) b1).row HR.out (fun _ _ e=>e));clear b1 CI)
   go_ret
   rw [HFl.out]
   exact ⟨_,rfl,HR1.out,HC.out,rfl⟩
 | some i0 =>
   have e0:fix q l=(i0:Int):=by unfold fix;rw [hF]
   obtain ⟨hi0,hqi,hqb⟩:=List.findIdx?_eq_some_iff_getElem.1 hF
   obtain ⟨g,cap,rfl,hcap⟩:=row_any h (by omega)
   have hcm:cap≤9223372036854775807:=by obtain ⟨_,_,e,-,-,h9⟩:=row_slice h;injection e with _ _ e;omega
   obtain ⟨i9,hi9,hz0,hz1,hz2⟩:=info_parts infoMs
   have HR:Hid (w.ownsRow B 87 7 (.slice (some ⟨g,0,none⟩) l.length cap) l.length (l.flatMap Ms.c)):=h
   have K0:(l.take i0).filter (fun x=>!q x)=l.take i0:=by
     rw [List.filter_eq_self]
     intro x hx
     obtain ⟨n,hn,rfl⟩:=List.getElem_of_mem hx
     rw [List.length_take] at hn
     have:=hqb n (by omega)
     rw [List.getElem_take]
     simpa using this
   have HS:Hid (∃mid:List Ms,mid.length=i0+1-i0∧((l.take (i0+1)).filter fun x=>!q x).length=i0∧w.ownsRow B 87 7 (.slice (some ⟨g,0,none⟩) l.length cap) l.length ((((l.take (i0+1)).filter fun x=>!q x)++mid++l.drop (i0+1)).flatMap Ms.c)):=by
     refine ⟨[l[i0]],by simp,?_,?_⟩
     · rw [filter_snoc hi0,K0,hqi];simp;omega
     · rw [filter_snoc hi0,K0,hqi]
       have:l.take i0++(if (!true)=true then [l[i0]] else [])++[l[i0]]++l.drop (i0+1)=l:=by simp
       rw [this];exact h
   rw [e0] at CI
   clear h hF K0 e0 hqb hqi
   have hw0:IntKind.i64.wrap ((i0:Int)+1)=(i0:Int)+1:=by rw [IntKind.wrap_i64];omega
   have hne:((i0:Int)==-1)=false:=by rw [beq_eq_false_iff_ne];omega
   have hne2:¬(i0:Int) = -1:=by omega
   go_enter Tryz.func167,Tryz.ntmps167
   go_wp2_with (go_at_call 164;refine CI.mono ?_;rintro e w1 ⟨rfl,b1⟩;(have HC:Hid (Ch (fun g'=>(some g:Option Nat)=some g') w w1∧∃mid:List Ms,mid.length=i0+1-i0∧((l.take (i0+1)).filter fun x=>!q x).length=i0∧w1.ownsRow B 87 7 (.slice (some ⟨g,0,none⟩) l.length cap) l.length ((((l.take (i0+1)).filter fun x=>!q x)++mid++l.drop (i0+1)).flatMap Ms.c)):=by (obtain ⟨mid,h1,h2,h3⟩:=HS.out;exact ⟨Ch.of_below b1,mid,h1,h2,(Ch.of_below (X:=fun _=>False) b1).row h3 (fun _ _ e=>e)⟩));clear b1 CI HS)
   go_loopw [5,6] (fun v5 v6 wr=>∃i j:Nat,v5=.int .i64 (i:Int)∧v6=.int .i64 (j:Int)∧i<j∧j≤l.length∧Hid (Ch (fun g'=>(some g:Option Nat)=some g') w wr∧∃mid:List Ms,mid.length=j-i∧((l.take j).filter fun x=>!q x).length=i∧wr.ownsRow B 87 7 (.slice (some ⟨g,0,none⟩) l.length cap) l.length ((((l.take j).filter fun x=>!q x)++mid++l.drop j).flatMap Ms.c))) (fun _ v6 _=>l.length-(intOf v6).toNat)
   case atStart=>exact ⟨i0,i0+1,rfl,by simp,by omega,by omega,HC.out⟩
   case round =>
     clear HC hne hne2 hw0
     obtain ⟨i,j,rfl,rfl,hij,hjl,HM⟩:=hrel
     by_cases hlt:j<l.length
     · have hlt':(j:Int)<(l.length:Int):=by omega
       have hj0:(0:Int)≤(j:Int):=by omega
       have hii:(0:Int)≤(i:Int):=by omega
       have hil:(i:Int)<(l.length:Int):=by omega
       obtain ⟨hC,mid,hmid,hKl,hrow⟩:=HM.out
       have hd:l.drop j=l[j]::l.drop (j+1):=(List.getElem_cons_drop (h:=hlt)).symm
       have hxj:(((l.take j).filter fun x=>!q x)++mid++l.drop j)[j]?=some l[j]:=by
         rw [List.getElem?_append_right (by simp;omega),List.length_append,hKl,hmid,hd,show j-(i+(j-i))=0 by omega];rfl
       have hXl:(((l.take j).filter fun x=>!q x)++mid++l.drop j).length=l.length:=by simp [hKl,hmid];omega
       have hiX:i<(((l.take j).filter fun x=>!q x)++mid++l.drop j).length:=by omega
       have m0:wr.cell? ⟨g,j*7+0,none⟩=some (.int .u64 (l[j].key:Int)):=row_cell hrow (by rw [fm_get Ms.k _ j 0 (by omega),hxj];rfl)
       have m1:wr.cell? ⟨g,j*7+1,none⟩=some (.string (S l[j].name)):=row_cell hrow (by rw [fm_get Ms.k _ j 1 (by omega),hxj];rfl)
       have m2:wr.cell? ⟨g,j*7+2,none⟩=some (.string (S l[j].for_)):=row_cell hrow (by rw [fm_get Ms.k _ j 2 (by omega),hxj];rfl)
       have m3:wr.cell? ⟨g,j*7+3,none⟩=some (.string (S l[j].id)):=row_cell hrow (by rw [fm_get Ms.k _ j 3 (by omega),hxj];rfl)
       have m4:wr.cell? ⟨g,j*7+4,none⟩=some (.int .i64 l[j].unt):=row_cell hrow (by rw [fm_get Ms.k _ j 4 (by omega),hxj];rfl)
       have m5:wr.cell? ⟨g,j*7+5,none⟩=some (l[j].vv):=row_cell hrow (by rw [fm_get Ms.k _ j 5 (by omega),hxj];rfl)
       have m6:wr.cell? ⟨g,j*7+6,none⟩=some (l[j].iv):=row_cell hrow (by rw [fm_get Ms.k _ j 6 (by omega),hxj];rfl)
       simp only [Nat.add_zero] at m0
       have CG:=HQ.out l[j] (List.getElem_mem hlt)
       have HX:Hid (∀W,Ch (fun _=>False) wr W→W.ownsRow B 87 7 (.slice (some ⟨g,0,none⟩) l.length cap) l.length ((((l.take j).filter fun x=>!q x)++mid++l.drop j).flatMap Ms.c)∧Ch (fun g'=>(some g:Option Nat)=some g') w W):=fun W hW=>⟨hW.row hrow (fun _ _ e=>e),hC.trans (hW.mono (fun _ _ e=>e.elim))⟩
       by_cases hx:q l[j]=true
       · have HN:Hid (∀W,Ch (fun _=>False) wr W→Ch (fun g'=>(some g:Option Nat)=some g') w W∧∃mid:List Ms,mid.length=j+1-i∧((l.take (j+1)).filter fun x=>!q x).length=i∧W.ownsRow B 87 7 (.slice (some ⟨g,0,none⟩) l.length cap) l.length ((((l.take (j+1)).filter fun x=>!q x)++mid++l.drop (j+1)).flatMap Ms.c)):=by
           intro W hW
           obtain ⟨r1,c1⟩:=HX.out W hW
           refine ⟨c1,mid++[l[j]],by simp;omega,by rw [filter_snoc hlt,hx];simpa using hKl,?_⟩
           rw [filter_snoc hlt,hx]
           have:((l.take j).filter fun x=>!q x)++(if (!true)=true then [l[j]] else [])++(mid++[l[j]])++l.drop (j+1)=((l.take j).filter fun x=>!q x)++mid++l.drop j:=by rw [hd];simp
           rw [this]
           exact r1
         have CH:=HX
         rw [hx] at CG
         clear hx HM hrow hC hxj hXl hd hKl hmid hiX
         obtain ⟨sa5,sn5,sc5,hs5⟩:=h5 l[j] (List.getElem_mem hlt)
         obtain ⟨sa6,sn6,sc6,hs6⟩:=h6 l[j] (List.getElem_mem hlt)
         generalize l[j]=x at CG HX m0 m1 m2 m3 m4 m5 m6 HN hs5 hs6
         obtain ⟨x0,x1,x2,x3,x4,x5,x6,_,_⟩:=x
         simp only at hs5
         subst hs5
         simp only at hs6
         subst hs6
         simp only [Ms.c] at m0 m1 m2 m3 m4 m5 m6 CG
         have CG1:=CG _ (HX.out (wr.alloc (.cells #[.int .u64 (x0:Int),.string (S x1),.string (S x2),.string (S x3),.int .i64 x4,.slice sa5 sn5 sc5,.slice sa6 sn6 sc6] 87)) ((Ch.refl _ wr).alloc _)).2
         clear CG
         go_wp2
         refine CG1.mono ?_
         rintro e w2 ⟨rfl,b2⟩
         have H3:Hid _:=HN.out w2 (((Ch.refl _ wr).alloc _).trans (Ch.of_below b2))
         clear CG1 HN b2 HX CH
         go_wp2
         go_roundw
         case rel=>exact ⟨i,j+1,rfl,by simp,by omega,by omega,H3.out⟩
         case measure=>simp [intOf];omega
       · have hx':q l[j]=false:=by simpa using hx
         have HN:Hid (∀W,Ch (fun _=>False) wr W→Ch (fun g'=>(some g:Option Nat)=some g') w (W.setCells g (i*7) (Ms.c l[j]))∧∃mid:List Ms,mid.length=j+1-(i+1)∧((l.take (j+1)).filter fun x=>!q x).length=i+1∧(W.setCells g (i*7) (Ms.c l[j])).ownsRow B 87 7 (.slice (some ⟨g,0,none⟩) l.length cap) l.length ((((l.take (j+1)).filter fun x=>!q x)++mid++l.drop (j+1)).flatMap Ms.c)):=by
           intro W hW
           obtain ⟨r1,c1⟩:=HX.out W hW
           refine ⟨ch_setCells c1 g _ _ (fun _=>rfl),mid.tail++[l[j]],by simp;omega,by rw [filter_snoc hlt,hx'];simp [hKl],?_⟩
           have:=row_elem Ms.k r1 i hiX l[j]
           have e2:(((l.take j).filter fun x=>!q x)++mid++l.drop j).set i l[j]=(((l.take (j+1)).filter fun x=>!q x)++(mid.tail++[l[j]])++l.drop (j+1)):=by
             rw [filter_snoc hlt,hx',hd,← hKl,set_gap (by omega)];rfl
           rw [e2] at this
           exact this
         have HF:Hid (∀W,Ch (fun _=>False) wr W→(W.cell? ⟨g,i*7+0,none⟩).isSome=true∧W.frozen? ⟨g,i*7+0,none⟩=false∧(W.cell? ⟨g,i*7+1,none⟩).isSome=true∧W.frozen? ⟨g,i*7+1,none⟩=false∧(W.cell? ⟨g,i*7+2,none⟩).isSome=true∧W.frozen? ⟨g,i*7+2,none⟩=false∧(W.cell? ⟨g,i*7+3,none⟩).isSome=true∧W.frozen? ⟨g,i*7+3,none⟩=false∧(W.cell? ⟨g,i*7+4,none⟩).isSome=true∧W.frozen? ⟨g,i*7+4,none⟩=false∧(W.cell? ⟨g,i*7+5,none⟩).isSome=true∧W.frozen? ⟨g,i*7+5,none⟩=false∧(W.cell? ⟨g,i*7+6,none⟩).isSome=true∧W.frozen? ⟨g,i*7+6,none⟩=false):=by
           intro W hW
           have r1:=(HX.out W hW).1
           have cc:∀n,n<7→(W.cell? ⟨g,i*7+n,none⟩).isSome=true:=fun n hn=>by
             have e3:((((l.take j).filter fun x=>!q x)++mid++l.drop j).flatMap Ms.c)[i*7+n]?=some ((Ms.c ((((l.take j).filter fun x=>!q x)++mid++l.drop j)[i]))[n]'(by rw [Ms.k];exact hn)):=by
               rw [fm_get Ms.k _ i n hn,List.getElem?_eq_getElem hiX]
               exact List.getElem?_eq_getElem _
             rw [row_cell r1 e3];rfl
           exact ⟨cc 0 (by omega),row_fro r1 _,cc 1 (by omega),row_fro r1 _,cc 2 (by omega),row_fro r1 _,cc 3 (by omega),row_fro r1 _,cc 4 (by omega),row_fro r1 _,cc 5 (by omega),row_fro r1 _,cc 6 (by omega),row_fro r1 _⟩
         rw [hx'] at CG
         clear hx hx' HM hrow hC hxj hXl hd hKl hmid hiX
         obtain ⟨sa5,sn5,sc5,hs5⟩:=h5 l[j] (List.getElem_mem hlt)
         obtain ⟨sa6,sn6,sc6,hs6⟩:=h6 l[j] (List.getElem_mem hlt)
         generalize l[j]=x at CG HX m0 m1 m2 m3 m4 m5 m6 HN hs5 hs6
         obtain ⟨x0,x1,x2,x3,x4,x5,x6,_,_⟩:=x
         simp only at hs5
         subst hs5
         simp only at hs6
         subst hs6
         simp only [Ms.c] at m0 m1 m2 m3 m4 m5 m6 CG
         have CG1:=CG _ (HX.out (wr.alloc (.cells #[.int .u64 (x0:Int),.string (S x1),.string (S x2),.string (S x3),.int .i64 x4,.slice sa5 sn5 sc5,.slice sa6 sn6 sc6] 87)) ((Ch.refl _ wr).alloc _)).2
         clear CG
         go_wp2
         refine CG1.mono ?_
         rintro e w2 ⟨rfl,b2⟩
         have HW2:Ch (fun _=>False) wr w2:=((Ch.refl _ wr).alloc _).trans (Ch.of_below b2)
         have H3:Hid _:=HN.out w2 HW2
         obtain ⟨p0,f0,p1,f1,p2,f2,p3,f3,p4,f4,p5,f5,p6,f6⟩:=HF.out w2 HW2
         have y0:=(b2.cell (p:=⟨wr.heap.size,0,none⟩) (by simp)).trans (World.cell?_alloc_new wr _ _ _)
         have y1:=(b2.cell (p:=⟨wr.heap.size,1,none⟩) (by simp)).trans (World.cell?_alloc_new wr _ _ _)
         have y2:=(b2.cell (p:=⟨wr.heap.size,2,none⟩) (by simp)).trans (World.cell?_alloc_new wr _ _ _)
         have y3:=(b2.cell (p:=⟨wr.heap.size,3,none⟩) (by simp)).trans (World.cell?_alloc_new wr _ _ _)
         have y4:=(b2.cell (p:=⟨wr.heap.size,4,none⟩) (by simp)).trans (World.cell?_alloc_new wr _ _ _)
         have y5:=(b2.cell (p:=⟨wr.heap.size,5,none⟩) (by simp)).trans (World.cell?_alloc_new wr _ _ _)
         have y6:=(b2.cell (p:=⟨wr.heap.size,6,none⟩) (by simp)).trans (World.cell?_alloc_new wr _ _ _)
         simp only [Nat.add_zero,List.getElem?_toArray,List.getElem?_cons_zero,List.getElem?_cons_succ] at p0 f0 y0 y1 y2 y3 y4 y5 y6
         obtain ⟨u0,p0⟩:=Option.isSome_iff_exists.1 p0
         obtain ⟨u1,p1⟩:=Option.isSome_iff_exists.1 p1
         obtain ⟨u2,p2⟩:=Option.isSome_iff_exists.1 p2
         obtain ⟨u3,p3⟩:=Option.isSome_iff_exists.1 p3
         obtain ⟨u4,p4⟩:=Option.isSome_iff_exists.1 p4
         obtain ⟨u5,p5⟩:=Option.isSome_iff_exists.1 p5
         obtain ⟨u6,p6⟩:=Option.isSome_iff_exists.1 p6
         have hw1:IntKind.i64.wrap ((i:Int)+1)=(i:Int)+1:=by rw [IntKind.wrap_i64];omega
         clear CG1 HN b2 HX HF HW2
         go_wp2
         go_roundw
         case rel=>exact ⟨i+1,j+1,by simp,by simp,by omega,by omega,H3.out⟩
         case measure=>simp [intOf];omega
     · have hlt':¬(j:Int)<(l.length:Int):=by omega
       obtain rfl:j=l.length:=by omega
       obtain ⟨hC,mid,hmid,hKl,hrow⟩:=HM.out
       rw [List.take_length] at hKl hrow
       rw [List.drop_length,List.append_nil,List.flatMap_append] at hrow
       have hzl:=zero_len (.agg #[.int .u64 0,.string ⟨#[]⟩,.string ⟨#[]⟩,.string ⟨#[]⟩,.int .i64 0,.slice none 0 0,.slice none 0 0]) 7 rfl (l.length-i)
       have hz1':=zero_one (z:=.agg #[.int .u64 0,.string ⟨#[]⟩,.string ⟨#[]⟩,.string ⟨#[]⟩,.int .i64 0,.slice none 0 0,.slice none 0 0]) (k:=7) rfl (by decide) (by decide) (l.length-i)
       have hlen:=hrow.1
       have hcl:Hid (∀ty cc,(Builtin.clear_ #[31] ty #[.slice (some ⟨g,i*7,none⟩) (l.length-i) cc]).run Tryz.prog wr=.ok (.tuple #[]) (wr.setCells g (i*7) (Builtin.zeroCells (.agg #[.int .u64 0,.string ⟨#[]⟩,.string ⟨#[]⟩,.string ⟨#[]⟩,.int .i64 0,.slice none 0 0,.slice none 0 0]:Value).cells (l.length-i)).toList)):=fun ty cc =>
         run_clearN wr _ _ ty _ Tryz.underlying31 Tryz.zeroValue87 g (i*7) (l.length-i) cc (by omega) _ rfl hz1' (fun t ht=>by
           have hlt:i*7+t<(List.flatMap Ms.c (List.filter (fun x=>!q x) l)++List.flatMap Ms.c mid).length:=by rw [hlen];omega
           rw [row_cell hrow (List.getElem?_eq_getElem hlt)];rfl) (fun t ht=>row_fro hrow _)
       have HE:Hid ((wr.setCells g (i*7) (Builtin.zeroCells (.agg #[.int .u64 0,.string ⟨#[]⟩,.string ⟨#[]⟩,.string ⟨#[]⟩,.int .i64 0,.slice none 0 0,.slice none 0 0]:Value).cells (l.length-i)).toList).ownsRow B 87 7 (.slice (some ⟨g,0,none⟩) i cap) (l.filter fun x=>!q x).length ((l.filter fun x=>!q x).flatMap Ms.c)∧Ch (fun g'=>(some g:Option Nat)=some g') w (wr.setCells g (i*7) (Builtin.zeroCells (.agg #[.int .u64 0,.string ⟨#[]⟩,.string ⟨#[]⟩,.string ⟨#[]⟩,.int .i64 0,.slice none 0 0,.slice none 0 0]:Value).cells (l.length-i)).toList)):=by
         have r2:=row_puts hrow (i*7) (Builtin.zeroCells (.agg #[.int .u64 0,.string ⟨#[]⟩,.string ⟨#[]⟩,.string ⟨#[]⟩,.int .i64 0,.slice none 0 0,.slice none 0 0]:Value).cells (l.length-i)).toList (by rw [hzl,hlen];omega)
         have e5:(List.flatMap Ms.c (List.filter (fun x=>!q x) l)++List.flatMap Ms.c mid).take (i*7)=List.flatMap Ms.c (List.filter (fun x=>!q x) l):=by
           rw [List.take_append_of_le_length (by rw [fm_len Ms.k,hKl];exact nlr),List.take_of_length_le (by rw [fm_len Ms.k,hKl];exact nlr)]
         rw [e5,List.append_assoc] at r2
         refine ⟨?_,ch_setCells hC g _ _ (fun _=>rfl)⟩
         rw [hKl]
         exact row_cut r2 (by rw [fm_len Ms.k,hKl]) (by omega)
       clear HM hrow hC hzl hz1' hlen hmid HQ HR hKl
       have hil:(i:Int)≤(l.length:Int):=by omega
       have hii:(0:Int)≤(i:Int):=by omega
       have hic:¬cap=i:=by omega
       have hlc:(l.length:Int)≤(cap:Int):=by omega
       have hil2:i≤l.length:=by omega
       generalize (Builtin.zeroCells (.agg #[.int .u64 0,.string ⟨#[]⟩,.string ⟨#[]⟩,.string ⟨#[]⟩,.int .i64 0,.slice none 0 0,.slice none 0 0]:Value).cells (l.length-i)).toList=zz at *
       have hcl2:=hcl.out
       clear hcl
       go_wp2
       go_ret
       exact ⟨.slice (some ⟨g,0,none⟩) i cap,rfl,HE.out.1,HE.out.2,rfl⟩

def DlIn (B:Nat) (w:World) (v:Value) (l:List In) (e:Ending) (w':World):Prop:=∃v',e=.returned v'∧w'.ownsRow B 58 3 v' l.length (l.flatMap In.c)∧Ch (fun g=>v.ownBlock=some g) w w'∧v'.ownBlock=v.ownBlock
theorem takeIn_any {B : Nat} {w : World} {v : Value} {l : List In} {kf : Nat} {caps : Array Value} (q : In → Bool) (h : w.ownsRow B 58 3 v l.length (l.flatMap In.c)) (hn : l.length ≤ 4611686018427387904) (ek : Ent0 kf) (hq : ∀ x ∈ l, Say (fun g => v.ownBlock = some g) w kf caps #[.agg (In.c x).toArray] (q x)) (h2 : ∀ x ∈ l, ∃ a n c, x.vv = .slice a n c) :
   Calls Tryz.prog 101 #[v,.func (.func kf) #[] caps] w (DlIn B w v (l.filter fun x=>!q x)):=by
 have CD:=delIn_any q h hn ek hq h2
 obtain ⟨a,cp,hs,-⟩:=row_slice h
 clear h hq ek
 subst hs
 generalize (l.filter fun x=>!q x)=l' at *
 go_enter Tryz.func101,Tryz.ntmps101
 go_wp2_with (go_at_call 156;refine CD.mono ?_;rintro e w1 ⟨v1,rfl,r1,c1,o1⟩;(have H1:Hid (w1.ownsRow B 58 3 v1 l'.length (l'.flatMap In.c)∧Ch (fun g=>(Value.slice a l.length cp).ownBlock=some g) w w1∧v1.ownBlock=(Value.slice a l.length cp).ownBlock):=⟨r1,c1,o1⟩);clear r1 c1 o1 CD)
 go_ret
 exact ⟨_,rfl,H1.out⟩

def DlLs (B:Nat) (w:World) (v:Value) (l:List Ls) (e:Ending) (w':World):Prop:=∃v',e=.returned v'∧w'.ownsRow B 81 7 v' l.length (l.flatMap Ls.c)∧Ch (fun g=>v.ownBlock=some g) w w'∧v'.ownBlock=v.ownBlock
theorem takeLs_any {B : Nat} {w : World} {v : Value} {l : List Ls} {kf : Nat} {caps : Array Value} (q : Ls → Bool) (h : w.ownsRow B 81 7 v l.length (l.flatMap Ls.c)) (hn : l.length ≤ 4611686018427387904) (ek : Ent0 kf) (hq : ∀ x ∈ l, Say (fun g => v.ownBlock = some g) w kf caps #[.agg (Ls.c x).toArray] (q x)) (h6 : ∀ x ∈ l, ∃ a n c, x.vv = .slice a n c) :
   Calls Tryz.prog 118 #[v,.func (.func kf) #[] caps] w (DlLs B w v (l.filter fun x=>!q x)):=by
 have CD:=delLs_any q h hn ek hq h6
 obtain ⟨a,cp,hs,-⟩:=row_slice h
 clear h hq ek
 subst hs
 generalize (l.filter fun x=>!q x)=l' at *
 go_enter Tryz.func118,Tryz.ntmps118
 go_wp2_with (go_at_call 170;refine CD.mono ?_;rintro e w1 ⟨v1,rfl,r1,c1,o1⟩;(have H1:Hid (w1.ownsRow B 81 7 v1 l'.length (l'.flatMap Ls.c)∧Ch (fun g=>(Value.slice a l.length cp).ownBlock=some g) w w1∧v1.ownBlock=(Value.slice a l.length cp).ownBlock):=⟨r1,c1,o1⟩);clear r1 c1 o1 CD)
 go_ret
 exact ⟨_,rfl,H1.out⟩

def DlMs (B:Nat) (w:World) (v:Value) (l:List Ms) (e:Ending) (w':World):Prop:=∃v',e=.returned v'∧w'.ownsRow B 87 7 v' l.length (l.flatMap Ms.c)∧Ch (fun g=>v.ownBlock=some g) w w'∧v'.ownBlock=v.ownBlock
theorem takeMs_any {B : Nat} {w : World} {v : Value} {l : List Ms} {kf : Nat} {caps : Array Value} (q : Ms → Bool) (h : w.ownsRow B 87 7 v l.length (l.flatMap Ms.c)) (hn : l.length ≤ 4611686018427387904) (ek : Ent0 kf) (hq : ∀ x ∈ l, Say (fun g => v.ownBlock = some g) w kf caps #[.agg (Ms.c x).toArray] (q x)) (h5 : ∀ x ∈ l, ∃ a n c, x.vv = .slice a n c) (h6 : ∀ x ∈ l, ∃ a n c, x.iv = .slice a n c) :
   Calls Tryz.prog 109 #[v,.func (.func kf) #[] caps] w (DlMs B w v (l.filter fun x=>!q x)):=by
 have CD:=delMs_any q h hn ek hq h5 h6
 obtain ⟨a,cp,hs,-⟩:=row_slice h
 clear h hq ek
 subst hs
 generalize (l.filter fun x=>!q x)=l' at *
 go_enter Tryz.func109,Tryz.ntmps109
 go_wp2_with (go_at_call 167;refine CD.mono ?_;rintro e w1 ⟨v1,rfl,r1,c1,o1⟩;(have H1:Hid (w1.ownsRow B 87 7 v1 l'.length (l'.flatMap Ms.c)∧Ch (fun g=>(Value.slice a l.length cp).ownBlock=some g) w w1∧v1.ownBlock=(Value.slice a l.length cp).ownBlock):=⟨r1,c1,o1⟩);clear r1 c1 o1 CD)
 go_ret
 exact ⟨_,rfl,H1.out⟩
end Go.Proofs.YtmfempdcpoeicaaGreat.f13
