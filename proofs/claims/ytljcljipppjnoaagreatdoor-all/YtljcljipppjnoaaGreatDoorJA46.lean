import Derived.Test.YtljcljipppjnoaaGreatDoorJA11
import Derived.Test.YtljcljipppjnoaaGreatDoorJA45
namespace Go.Proofs.YtljcljipppjnoaaGreatDoor
open Go.RowKit
def noU:Ou:=⟨.slice none 0 0,[],0,0,0⟩
def uOf (s:Option Ou):Ou:=s.getD noU
def svOf (s:Option Ou) (bk:Nat):Value:=if s.isSome then .iface 106 (.pointer (some ⟨bk,0,none⟩)) else .nilIface
theorem svOf_ie (s:Option Ou) (bk:Nat):svOf s bk=.nilIface∨∃ u x,svOf s bk=.iface u x:=by
  unfold svOf
  split
  · exact Or.inr ⟨_,_,rfl⟩
  · exact Or.inl rfl
structure RunAt (s:Option Ou) (bk bo:Nat) (page:List UInt8) (of tk mo:Nat) (got left rest:List UInt8) (O:Nat→Prop) (W:World):Prop where
  box:W.heap[bo]?=some (.cells #[svOf s bk,.string ⟨left.toArray⟩,.int .i64 tk] 184 (0,0))
  ob:O bo
  snk:∀ u,s=some u→∃ O1,SkAt u bk of mo got O1 W∧(∀ x,O1 x→O x)∧¬ O1 bo
  run:Run (uOf s).one (uOf s).fa (uOf s).la (uOf s).li page of tk got left rest
  mo:mo≤16
  lt:∀ x,O x→x < W.heap.size
theorem RunAt.keep {s:Option Ou} {bk bo:Nat} {page:List UInt8} {of tk mo:Nat} {got left rest:List UInt8} {O:Nat→Prop} {W w':World} (h:RunAt s bk bo page of tk mo got left rest O W) (hk:∀ x,O x→w'.heap[x]?=W.heap[x]?) (hz:W.heap.size≤w'.heap.size):RunAt s bk bo page of tk mo got left rest O w':=by
  refine ⟨(hk _ h.ob).trans h.box,h.ob,fun u hu=>?_,h.run,h.mo,fun x hx=>Nat.lt_of_lt_of_le (h.lt x hx) hz⟩
  obtain ⟨O1,s1,s2,s3⟩:=h.snk u hu
  exact ⟨O1,s1.keep (fun x hx=>hk x (s2 x hx)) hz,s2,s3⟩
structure FailS (aS:Addr) (u:Ou) (bk:Nat) (page:List UInt8) (of N mo:Nat) (got:List UInt8) (ev:Value) (O:Nat→Prop) (W:World):Prop where
  snk:∃ O1,SkAt u bk of mo got O1 W∧∀ x,O1 x→O x
  mo:mo≤16
  err:∃ (gE:Nat) (er:Value) (wr:Bool),ev=.iface 141 (.pointer (some ⟨gE,0,none⟩))∧W.heap[gE]?=some (.cells #[.int .i64 N,er] 142 (0,0))∧O gE∧Bad u.one u.fa u.la u.li page wr of N got∧((wr=true∧∃ p,er=.iface 133 (.pointer (some p)))∨(wr=false∧er=.iface 292 (.pointer (some aS))))
  lt:∀ x,O x→x < W.heap.size
theorem FailS.keep {aS:Addr} {u:Ou} {bk:Nat} {page:List UInt8} {of N mo:Nat} {got:List UInt8} {ev:Value} {O:Nat→Prop} {W w':World} (h:FailS aS u bk page of N mo got ev O W) (hk:∀ x,O x→w'.heap[x]?=W.heap[x]?) (hz:W.heap.size≤w'.heap.size):FailS aS u bk page of N mo got ev O w':=by
  obtain ⟨O1,s1,s2⟩:=h.snk
  obtain ⟨gE,er,wr,e1,e2,e3,e4⟩:=h.err
  exact ⟨⟨O1,s1.keep (fun x hx=>hk x (s2 x hx)) hz,s2⟩,h.mo,⟨gE,er,wr,e1,(hk gE e3).trans e2,e3,e4⟩,fun x hx=>Nat.lt_of_lt_of_le (h.lt x hx) hz⟩
def sinkV (aS:Addr):Value:=.iface 292 (.pointer (some aS))
def RunOut (aS:Addr) (s:Option Ou) (bk bo:Nat) (page rest:List UInt8) (P:Nat→Prop) (O:Nat→Prop) (W:World) (e:Ending) (w':World):Prop :=
  ∃ O',Fp O O' W w'∧((e=.returned .nilIface∧∃ of' tk' mo' got' left',RunAt s bk bo page of' tk' mo' got' left' rest O' w'∧P left'.length) ∨
    (∃ (ev:Value) (u:Ou) (of' N mo':Nat) (got':List UInt8) (left':Array UInt8),e=.returned ev∧(∃ t x,ev=.iface t x)∧s=some u∧W.heap.size≤w'.heap.size∧w'.heap[bo]?=some (.cells #[svOf s bk,.string ⟨left'⟩,.int .i64 N] 184 (0,0))∧O' bo∧FailS aS u bk page of' N mo' got' ev O' w'))
set_option maxHeartbeats 1000000 in
theorem offer_any {w0:World} {aS:Addr} (hS:w0.cell? ⟨0,0,none⟩=some (sinkV aS)) {s:Option Ou} (hu:∀ u,s=some u→u.Ok w0) {bk bo:Nat} {page:List UInt8} (hp:page.length≤68719476736) {of tk mo:Nat} {got left rest:List UInt8} {O:Nat→Prop} {W:World}
    (h:RunAt s bk bo page of tk mo got left rest O W) (hW:Below w0.heap.size w0 W) (hlow:∀ x,O x→w0.heap.size≤x) (hl:1≤left.length) :
    Calls Tryz.prog 115 #[.pointer (some ⟨bo,0,none⟩)] W (RunOut aS s bk bo page rest (fun k=>k < left.length) O W):=by
  have hsum:=h.run.sum
  have hge:=h.run.tk_ge
  have hgl:=h.run.gl
  have hS0:0 < w0.heap.size:=lt_cell hS
  have hzW:=hW.size
  have hbl:=h.lt bo h.ob
  obtain ⟨n,hn⟩:∃ n,n=min left.length 16:=⟨_,rfl⟩
  have hbs:(left.take n).length=n:=by rw [List.length_take];omega
  obtain ⟨q1,q2,cur,q3,q4⟩:=bufd_facts W n (left.take n) hbs
  cases s with
  | none =>
    refine (next_walk bo n tk (svOf none bk) (sinkV aS) left (by omega) (by omega) (by omega) (by omega) _ _ rfl (svOf_ie _ _) W h.box (fun k er w'=>k=n∧er=.nilIface∧Below W.heap.size W w') ?_).mono ?_
    · refine (take_none _ _ _ _).mono ?_
      rintro e w' ⟨rfl,b⟩
      have b2:Below W.heap.size W w':=q2.trans (b.mono (by omega))
      exact ⟨n,.nilIface,rfl,Or.inl rfl,⟨rfl,rfl,b2⟩,(b2.block bo hbl).trans h.box,(b2.cell (p:=⟨0,0,none⟩) (Nat.lt_of_lt_of_le hS0 hzW)).trans ((hW.cell (p:=⟨0,0,none⟩) hS0).trans hS)⟩
    · rintro e w' ⟨k,er,w1,⟨rfl,rfl,b1⟩,(⟨h1,_⟩ | ⟨_,h1,_⟩ | ⟨_,m,hm,m1,m2,rfl,rfl⟩)⟩
      · exact absurd rfl h1
      · omega
      · have hm:m=n:=by omega
        subst hm
        have hb1:=(b1.block bo hbl).trans h.box
        have z1:=b1.size
        have f1:Fp O O W ((w1.setCell ⟨bo,1,none⟩ (.string ⟨(left.drop m).toArray⟩)).setCell ⟨bo,2,none⟩ (.int .i64 ((tk+m:Nat):Int))):=by
          refine ⟨b1.os,b1.tape,b1.output,by simp;omega,fun x hx ho=>?_,fun x hx=>Or.inl hx⟩
          have:x ≠ bo:=fun e=>ho (e ▸ h.ob)
          rw [Below.heap_setCell _ _ _ _ this,Below.heap_setCell _ _ _ _ this]
          exact b1.block x hx
        refine ⟨O,f1,Or.inl ⟨rfl,of+1,tk+m,mo,got++left.take m,left.drop m,⟨?_,h.ob,fun u hu'=>(by cases hu'),h.run.took m (by omega) (fun ho=>(by cases ho)) (by show _ ≠ (0:Int);omega) (by show _ ≠ (0:Int);omega),h.mo,fun x hx=>by have:=h.lt x hx;simp;omega⟩,by show (left.drop m).length < _;rw [List.length_drop];omega⟩⟩
        have e1:=Joins.block_setCell (i:=1) hb1 (.string ⟨(left.drop m).toArray⟩)
        have e2:=Joins.block_setCell (i:=2) e1 (.int .i64 ((tk+m:Nat):Int))
        simpa using e2
  | some u =>
    obtain ⟨O1,s1,s2,s3⟩:=h.snk u rfl
    have hru:Run u.one u.fa u.la u.li page of tk got left rest:=h.run
    have qo:=offered_below (bufd W n (left.take n))
    have bO:Below W.heap.size W (offered (bufd W n (left.take n))):=q2.trans (qo.mono (by omega))
    have zO:=offered_size (bufd W n (left.take n))
    have hgb:(offered (bufd W n (left.take n))).heap[W.heap.size]?=some (.cells cur 5 (0,0)):=(qo.block _ (by omega)).trans q3
    have st:=s1.keep (w':=offered (bufd W n (left.take n))) (fun x hx=>bO.block x (s1.lt x hx)) bO.size
    have hT:=sk_take (hu u rfl) st (hW.trans (bO.mono hzW)) (fun x hx=>hlow x (s2 x hx)) (by omega) (by omega) (gb:=W.heap.size) (n:=n) (bs:=left.take n) (by omega) hbs hgb q4 (fun ho=>by have:=s1.lt _ ho;omega)
    have htw:=take_walk bk (some ⟨W.heap.size,0,none⟩) n n (fun k er w'=>∃ (m:Nat) (O':Nat→Prop),(1≤m∧m≤n)∧(u.one=true→m=1)∧SkAt u bk (of+1) (max mo n) (got++(left.take n).take m) O' w'∧Fp (fun x=>O1 x∨x=W.heap.size) O' (offered (bufd W n (left.take n))) w'∧TookV of m u.fa u.la u.li k er) (bufd W n (left.take n)) (hT.mono (by
      rintro e w' ⟨m,O',m1,m2,k1,k2,te⟩
      obtain ⟨k,er,e1,e2,e3⟩:=te.vals
      refine ⟨k,er,e1,e2,⟨m,O',m1,m2,k1,k2,e3⟩,(k2.block _ (by omega) ?_).trans (offered0 _),(k2.block _ (by omega) ?_).trans (offered1 _)⟩
      · rintro (ho | ho)
        · have:=s1.lt _ ho;omega
        · omega
      · rintro (ho | ho)
        · have:=s1.lt _ ho;omega
        · omega))
    refine (next_walk bo n tk (svOf (some u) bk) (sinkV aS) left (by omega) (by omega) (by omega) (by omega) _ _ rfl (svOf_ie _ _) W h.box (fun k er w'=>∃ (m:Nat) (O':Nat→Prop),(1≤m∧m≤n)∧(u.one=true→m=1)∧SkAt u bk (of+1) (max mo n) (got++left.take m) O' w'∧Fp O1 O' W w'∧TookV of m u.fa u.la u.li k er) ?_).mono ?_
    · refine htw.mono ?_
      rintro e w' ⟨k,er,w1,rfl,hie,⟨m,O',m1,m2,k1,k2,k3⟩,d1,d2,d3,d4,d5⟩
      have nO:∀ x,O' x→x ≠ (bufd W n (left.take n)).heap.size∧x ≠ (bufd W n (left.take n)).heap.size+1:=by
        intro x hx
        rcases k2.grow x hx with (ho | ho) | ho
        · have:=s1.lt x ho;omega
        · omega
        · omega
      have z2:=k2.size
      have k1':=k1.keep (w':=w') (fun x hx=>d1 x (nO x hx).1 (nO x hx).2) (by omega)
      rw [List.take_take,Nat.min_eq_left m1.2] at k1'
      have f1:Fp O1 O' W w':=by
        refine ⟨d3.trans (k2.os.trans bO.os),d4.trans (k2.tape.trans bO.tape),d5.trans (k2.output.trans bO.output),by have:=bO.size;omega,fun x hx ho=>?_,fun x hx=>?_⟩
        · refine (d1 x (by omega) (by omega)).trans ((k2.block x (by omega) ?_).trans (bO.block x hx))
          rintro (h1 | h1)
          · exact ho h1
          · omega
        · rcases k2.grow x hx with (ho | ho) | ho
          · exact Or.inl ho
          · exact Or.inr (by omega)
          · exact Or.inr (by omega)
      have hG:¬ O1 0:=fun ho=>by have:=hlow _ (s2 _ ho);omega
      refine ⟨k,er,rfl,hie,⟨m,O',m1,m2,k1',f1,k3⟩,(f1.block bo hbl s3).trans h.box,?_⟩
      have:w'.cell? ⟨0,0,none⟩=W.cell? ⟨0,0,none⟩:=World.cell?_of_block (f1.block _ (Nat.lt_of_lt_of_le hS0 hzW) hG)
      exact this.trans ((hW.cell (p:=⟨0,0,none⟩) hS0).trans hS)
    · rintro e w' ⟨k,er,w1,⟨m,O',m1,m2,k1,k2,k3⟩,hcase⟩
      have z2:=k2.size
      have nbo:¬ O' bo:=fun ho=>by
        rcases k2.grow bo ho with h1 | h1
        · exact s3 h1
        · omega
      have hb1:w1.heap[bo]?=some (.cells #[svOf (some u) bk,.string ⟨left.toArray⟩,.int .i64 tk] 184 (0,0)):=(k2.block bo hbl s3).trans h.box
      have fail:∀ (wr:Bool) (er':Value) (d:Nat),(wr=true∧((of+1:Nat):Int)=u.fa∧((of+1:Nat):Int) ≠ u.la∧∃ p,er'=.iface 133 (.pointer (some p)))∨(wr=false∧((of+1:Nat):Int)=u.la∧er'=sinkV aS)→RunOut aS (some u) bk bo page rest (fun k=>k < left.length) O W (.returned (.iface 141 (.pointer (some ⟨w1.heap.size,0,none⟩)))) ((w1.drewN d).alloc (.cells #[.int .i64 tk,er'] 142)):=by
        intro wr er' d hwr
        have bA:Below w1.heap.size w1 ((w1.drewN d).alloc (.cells #[.int .i64 tk,er'] 142)):=(show Below w1.heap.size w1 (w1.drewN d) from ⟨rfl,rfl,rfl,Nat.le_refl _,fun _ _=>rfl⟩).alloc (Nat.le_refl _) _
        have zA:((w1.drewN d).alloc (.cells #[.int .i64 tk,er'] 142)).heap.size=w1.heap.size+1:=by simp
        have hE:((w1.drewN d).alloc (.cells #[.int .i64 tk,er'] 142)).heap[w1.heap.size]?=some (.cells #[.int .i64 tk,er'] 142 (0,0)):=heap_new _ _ rfl
        refine ⟨fun x=>O x∨O' x∨x=w1.heap.size,?fp,Or.inr ⟨_,u,of+1,tk,max mo n,got++left.take m,left.toArray,rfl,⟨_,_,rfl⟩,rfl,by omega,(bA.block bo (by omega)).trans hb1,Or.inl h.ob,⟨⟨O',k1.keep (fun x hx=>bA.block x (k1.lt x hx)) bA.size,fun x hx=>Or.inr (Or.inl hx)⟩,by have:=h.mo;omega,⟨w1.heap.size,er',wr,rfl,hE,Or.inr (Or.inr rfl),hru.bad m wr hl ?bad,?er⟩,fun x hx=>?lt⟩⟩⟩
        case fp =>
          refine ⟨bA.os.trans k2.os,bA.tape.trans k2.tape,bA.output.trans k2.output,by omega,fun x hx ho=>?_,fun x hx=>?_⟩
          · refine (bA.block x (by omega)).trans (k2.block x hx fun h1=>ho (s2 x h1))
          · rcases hx with hx | hx | hx
            · exact Or.inl hx
            · exact (k2.grow x hx).imp (s2 x) id
            · exact Or.inr (by omega)
        case bad =>
          rcases hwr with ⟨a1,a2,a3,_⟩ | ⟨a1,a2,_⟩
          · exact Or.inl ⟨a1,a2,a3⟩
          · exact Or.inr ⟨a1,a2⟩
        case er =>
          rcases hwr with ⟨a1,a2,a3,a4⟩ | ⟨a1,a2,a3⟩
          · exact Or.inl ⟨a1,a4⟩
          · exact Or.inr ⟨a1,a3⟩
        case lt =>
          rw [zA]
          rcases hx with hx | hx | hx
          · have:=h.lt x hx;omega
          · have:=k1.lt x hx;omega
          · omega
      rcases hcase with ⟨hne,rfl,d,rfl⟩ | ⟨rfl,hk,rfl,d,rfl⟩ | ⟨rfl,j,rfl,j1,j2,rfl,rfl⟩
      · rcases k3 with ⟨_,_,h3⟩ | ⟨a1,a2,_,p,rfl⟩ | ⟨_,_,_,h3⟩
        · exact absurd h3 hne
        · exact fail true _ d (Or.inl ⟨rfl,a2,a1,p,rfl⟩)
        · exact absurd h3 hne
      · rcases k3 with ⟨a1,a2,_⟩ | ⟨_,_,_,p,h3⟩ | ⟨_,_,a3,_⟩
        · exact fail false _ d (Or.inr ⟨rfl,a1,rfl⟩)
        · cases h3
        · omega
      · have hrun:Run u.one u.fa u.la u.li page (of+1) (tk+j) (got++left.take m) (left.drop j) rest:=by
          rcases k3 with ⟨a1,a2,_⟩ | ⟨_,_,_,p,h3⟩ | ⟨a1,a2,a3,_⟩
          · exact hru.lied m j (by omega) m2 a1 a2 (by omega)
          · cases h3
          · have:j=m:=by omega
            subst this
            exact hru.took j (by omega) m2 a1 a2
        have hz':((w1.setCell ⟨bo,1,none⟩ (.string ⟨(left.drop j).toArray⟩)).setCell ⟨bo,2,none⟩ (.int .i64 ((tk+j:Nat):Int))).heap.size=w1.heap.size:=by simp
        have oth:∀ x,x ≠ bo→((w1.setCell ⟨bo,1,none⟩ (.string ⟨(left.drop j).toArray⟩)).setCell ⟨bo,2,none⟩ (.int .i64 ((tk+j:Nat):Int))).heap[x]?=w1.heap[x]?:=fun x hx=>by rw [Below.heap_setCell _ _ _ _ hx,Below.heap_setCell _ _ _ _ hx]
        refine ⟨fun x=>O x∨O' x,⟨k2.os,k2.tape,k2.output,by omega,fun x hx ho=>?_,fun x hx=>?_⟩,Or.inl ⟨rfl,of+1,tk+j,max mo n,got++left.take m,left.drop j,⟨?_,Or.inl h.ob,fun u' hu'=>?_,hrun,by have:=h.mo;omega,fun x hx=>?_⟩,by show (left.drop j).length < _;rw [List.length_drop];omega⟩⟩
        · exact (oth x (fun e=>ho (e ▸ h.ob))).trans (k2.block x hx fun h1=>ho (s2 x h1))
        · rcases hx with hx | hx
          · exact Or.inl hx
          · exact (k2.grow x hx).imp (s2 x) id
        · have e1:=Joins.block_setCell (i:=1) hb1 (.string ⟨(left.drop j).toArray⟩)
          have e2:=Joins.block_setCell (i:=2) e1 (.int .i64 ((tk+j:Nat):Int))
          simpa using e2
        · injection hu' with hu'
          subst hu'
          exact ⟨O',k1.keep (fun x hx=>oth x (fun e=>nbo (e ▸ hx))) (by omega),fun x hx=>Or.inr hx,nbo⟩
        · rw [hz']
          rcases hx with hx | hx
          · have:=h.lt x hx;omega
          · exact k1.lt x hx
set_option maxRecDepth 100000 in
set_option maxHeartbeats 2000000 in
theorem while_any {w0:World} {aS:Addr} (hS:w0.cell? ⟨0,0,none⟩=some (sinkV aS)) {s:Option Ou} (hu:∀ u,s=some u→u.Ok w0) {bk bo:Nat} {page:List UInt8} (hp:page.length≤68719476736) {of tk mo:Nat} {got left rest:List UInt8} {O:Nat→Prop} {W:World}
    (h:RunAt s bk bo page of tk mo got left rest O W) (hW:Below w0.heap.size w0 W) (hlow:∀ x,O x→w0.heap.size≤x) (n:Nat) (hn:1≤n) (hn2:n≤16) :
    Calls Tryz.prog 95 #[.pointer (some ⟨bo,0,none⟩),.int .i64 n] W (RunOut aS s bk bo page rest (fun k=>k < n) O W):=by
  have cN:∀ (of tk mo:Nat) (got left:List UInt8) (O1:Nat→Prop) (W1:World),Fp O O1 W W1→RunAt s bk bo page of tk mo got left rest O1 W1→1≤left.length→Calls Tryz.prog 115 #[.pointer (some ⟨bo,0,none⟩)] W1 fun e w'=>RunOut aS s bk bo page rest (fun k=>k < left.length) O W e w':=by
    intro of tk mo got left O1 W1 hf hr hl
    have hz:=hW.size
    refine (offer_any hS hu hp hr (hW.trans (hf.under hz hlow)) (hf.low hz hlow) hl).mono ?_
    rintro e w' ⟨O2,f2,hc⟩
    refine ⟨O2,hf.trans f2,?_⟩
    rcases hc with hc | ⟨ev,u,of',N,mo',got',left',e1,e2,e3,e4,e5⟩
    · exact Or.inl hc
    · exact Or.inr ⟨ev,u,of',N,mo',got',left',e1,e2,e3,Nat.le_trans hf.size e4,e5⟩
  have H0:Hid (∃ (of tk mo:Nat) (got:List UInt8) (O1:Nat→Prop),Fp O O1 W W∧RunAt s bk bo page of tk mo got left rest O1 W):=⟨of,tk,mo,got,O,Fp.refl O W,h⟩
  have CN:Hid _:=cN
  have hnn:(1:Int)≤n:=by omega
  clear h hW hlow cN hS hu
  go_enter Tryz.func95,Tryz.ntmps95
  go_wp2
  go_loopg [] (left.length+1) (fun gk wr=>∃ (l1:List UInt8),l1.length < gk∧Hid (∃ (of tk mo:Nat) (got:List UInt8) (O1:Nat→Prop),Fp O O1 W wr∧RunAt s bk bo page of tk mo got l1 rest O1 wr))
  case atStart=>exact ⟨left,Nat.lt_succ_self _,H0⟩
  case round =>
    obtain ⟨l1,hgk,HA⟩:=hrel
    obtain ⟨of1,tk1,mo1,got1,O1,f1,r1⟩:=HA.out
    have hz1:=size_of l1
    have k1:=row_cell (i:=1) r1.box rfl
    have hlt1:=lt_of_block r1.box
    by_cases hc:n≤l1.length
    · have c1:Calls Tryz.prog 115 #[.pointer (some ⟨bo,0,none⟩)] wr fun e w'=>(e=.returned .nilIface∧Hid (∃ l2:List UInt8,l2.length < l1.length∧∃ (of tk mo:Nat) (got:List UInt8) (O1:Nat→Prop),Fp O O1 W w'∧RunAt s bk bo page of tk mo got l2 rest O1 w'))∨(∃ t x,e=.returned (.iface t x)∧Hid (RunOut aS s bk bo page rest (fun k=>k < n) O W (.returned (.iface t x)) w')):=by
        refine (CN.out of1 tk1 mo1 got1 l1 O1 wr f1 r1 (by omega)).mono ?_
        rintro e w' ⟨O2,f2,(⟨rfl,of',tk',mo',got',left',r2,hl2⟩ | ⟨ev,u,of',N,mo',got',left',rfl,⟨t,x,rfl⟩,e3⟩)⟩
        · exact Or.inl ⟨rfl,left',hl2,of',tk',mo',got',O2,f2,r2⟩
        · exact Or.inr ⟨t,x,rfl,O2,f2,Or.inr ⟨_,u,of',N,mo',got',left',rfl,⟨t,x,rfl⟩,e3⟩⟩
      have hge:decide (n≤l1.length)=true:=by simp;omega
      clear hc HA r1 f1
      go_wp2_with (go_at_call 115;refine c1.mono ?_;rintro e w1 (⟨rfl,HB⟩ | ⟨t,x,rfl,HB⟩))
      · obtain ⟨l2,hl2,hx⟩:=HB.out
        go_roundg (l2.length+1)
        case measure=>omega
        case rel=>exact ⟨l2,Nat.lt_succ_self _,hx⟩
      · go_ret
        exact HB.out
    · have hge:decide (n≤l1.length)=false:=by simp;omega
      have HF:Hid (RunOut aS s bk bo page rest (fun k=>k < n) O W (.returned .nilIface) wr):=⟨O1,f1,Or.inl ⟨rfl,of1,tk1,mo1,got1,l1,r1,by show _ < _;omega⟩⟩
      clear hc HA r1 f1
      go_wp2
      go_ret
      exact HF.out
end Go.Proofs.YtljcljipppjnoaaGreatDoor
