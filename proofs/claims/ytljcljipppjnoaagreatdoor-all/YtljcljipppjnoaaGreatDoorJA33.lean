import Derived.Test.YtljcljipppjnoaaGreatDoorJA24
import Derived.Test.YtljcljipppjnoaaGreatDoorJA32
import Derived.Laws.ResultCell
import Derived.Deep.CutRange
namespace Go.Proofs.YtljcljipppjnoaaGreatDoor
open Go.RowKit Go.Shelf
set_option maxRecDepth 100000 in
set_option maxHeartbeats 2000000 in
theorem stand_any (b o bm:Nat) (c:Array Value) (T:TypeId) (S0:List Stp) (n0:Nat) (t:List UInt8) (x y:Nat) (es:Array MapEntry) (clock:Nat) (m:Int) (W:World)
    (hs0:SpIn 0 n0 S0) (hin:Stp.leaf t x y ∈ S0) (ht:t.length≤16777216)
    (hb:W.heap[b]?=some (.cells c T (0,0))) (hc:c[o+2]?=some (.map (some bm))) (hm:W.heap[bm]?=some (.map es clock)) (hok:MapOk es S0 W)
    (hml:W.cell? ⟨6,0,none⟩=some (.int .i64 m)) :
    Calls Tryz.prog 86 #[.pointer (some ⟨b,o,none⟩),.agg #[.int .i64 8,.bool false,.int .i64 0,.string ⟨t.toArray⟩,.int .i64 x,.int .i64 y]] W fun e w' =>
      ∃ p ln cp es' clock',e=.returned (.slice p ln cp)∧EvRow (.slice p ln cp) (inX t) w'∧w'.heap[bm]?=some (.map es' clock')∧MapOk es' S0 w'∧(∃ e' ∈ es'.toList,e'.val=.slice p ln cp)∧(∀ e' ∈ es'.toList,e' ∈ es.toList∨∀ g,e'.val.ownBlock=some g→W.heap.size≤g)∧(∀ e' ∈ es.toList,e' ∈ es'.toList)∧(∀ i,i < W.heap.size→i ≠ bm→w'.heap[i]?=W.heap[i]?)∧W.heap.size≤w'.heap.size∧w'.os=W.os∧w'.tape=W.tape∧w'.output=W.output:=by
  have hmf:∀ (fn:Fn) (first cap:Array Value) (w:World),(Instr.makeFunc fn first cap).run Tryz.prog w=.ok (.func fn first cap) w:=fun _ _ _ _=>rfl
  have hlt:=lt_of_block hb
  have hmlt:bm < W.heap.size:=(Array.getElem?_eq_some_iff.1 hm).1
  have hcell:W.cell? ⟨b,o+2,none⟩=some (.map (some bm)):=row_cell hb hc
  obtain ⟨W1,hW1⟩:∃ W1,W.alloc (.cells #[.int .i64 8,.bool false,.int .i64 0,.string ⟨t.toArray⟩,.int .i64 x,.int .i64 y] 166)=W1:=⟨_,rfl⟩
  have hb1:Below W.heap.size W W1:=by rw [← hW1];exact (Below.refl _ W).alloc (Nat.le_refl _) _
  have z1:W1.heap.size=W.heap.size+1:=by rw [← hW1];simp
  have xs:W1.heap[W.heap.size]?=some (.cells #[.int .i64 8,.bool false,.int .i64 0,.string ⟨t.toArray⟩,.int .i64 x,.int .i64 y] 166 (0,0)):=by rw [← hW1];exact heap_alloc_new W _
  have hm1:∀ w',Below W1.heap.size W1 w'→w'.heap[bm]?=some (.map es clock):=fun w' h=>(h.block bm (by omega)).trans ((hb1.block bm hmlt).trans hm)
  have hcl:∀ w',Below W1.heap.size W1 w'→w'.cell? ⟨b,o+2,none⟩=some (.map (some bm))∧w'.cell? ⟨W.heap.size,3,none⟩=some (.string ⟨t.toArray⟩)∧w'.cell? ⟨W.heap.size,4,none⟩=some (.int .i64 x)∧w'.cell? ⟨W.heap.size,5,none⟩=some (.int .i64 y):=fun w' h=>by
    have h1:=(h.block b (by omega)).trans ((hb1.block b hlt).trans hb)
    have h2:=(h.block W.heap.size (by omega)).trans xs
    exact ⟨row_cell h1 hc,row_cell h2 rfl,row_cell h2 rfl,row_cell h2 rfl⟩
  have hB0:Below W1.heap.size W1 W1.drew:=(Below.refl _ W1).drew
  rcases map_look bm es clock x y hok.spans with ⟨hlk0,hno⟩ | ⟨e0,hlk0,h2,h3⟩
  · have hlk:∀ w',Below W1.heap.size W1 w'→(Instr.lookup 128 (.map (some bm)) (.agg #[.int .i64 x,.int .i64 y]) true).run Tryz.prog w'=.ok (.tuple #[.slice none 0 0,.bool false]) w':=fun w' h=>hlk0 w' (hm1 w' h)
    have HK:Hid (∀ w',Below W1.heap.size W1 w'→(w'.cell? ⟨b,o+2,none⟩=some (.map (some bm))∧w'.cell? ⟨W.heap.size,4,none⟩=some (.int .i64 x)∧w'.cell? ⟨W.heap.size,5,none⟩=some (.int .i64 y))∧(Instr.lookup 128 (.map (some bm)) (.agg #[.int .i64 x,.int .i64 y]) true).run Tryz.prog w'=.ok (.tuple #[.slice none 0 0,.bool false]) w'):=fun w' h=>⟨⟨(hcl w' h).1,(hcl w' h).2.2⟩,hlk w' h⟩
    have hbm:b ≠ bm:=fun h=>by rw [h,hm] at hb;cases hb
    obtain ⟨W2,hW2⟩:∃ W2,(W1.alloc (.cells #[.slice none 0 0] 75)).drew=W2:=⟨_,rfl⟩
    have B2:Below W1.heap.size W1 W2:=by rw [← hW2];exact ((Below.refl _ W1).alloc (Nat.le_refl _) _).drew
    have z2:W2.heap.size=W.heap.size+1+1:=by rw [← hW2,← z1];show (W1.alloc _).heap.size=_;simp
    have xl:W2.heap[W.heap.size+1]?=some (.cells #[.slice none 0 0] 75 (0,0)):=by rw [← hW2,← z1];exact heap_alloc_new W1 _
    have hTl:Told (W.heap.size+1) [] W2:=⟨_,xl,by simpa [evCs] using World.ownsRow_nil W2 (W.heap.size+1+1) 92 4⟩
    have hmx:6 < W.heap.size:=by
      rcases Nat.lt_or_ge 6 W.heap.size with h | h
      · exact h
      · simp [World.cell?,Array.getElem?_eq_none h] at hml
    have hB02:Below W.heap.size W W2:=hb1.trans (B2.mono (by omega))
    have c1:=leaves_any 112 do_stands m (W.heap.size+1) t W2 hTl ht (by omega) ((hB02.cell (p:=⟨6,0,none⟩) hmx).trans hml)
    have hno2:∀ i,i < W.heap.size+1→¬ Own (W.heap.size+1) W2 i:=by
      intro i hi ho
      rcases ho with h | ⟨u,hu,hub⟩
      · omega
      · rw [xl] at hu
        rw [← one_inj hu] at hub
        cases hub
    have c2:Calls Tryz.prog 99 #[.string ⟨t.toArray⟩,.func (.func 112) #[] #[.pointer (some ⟨W.heap.size+1,0,none⟩)]] W2 fun e w3=>e=.returned (.tuple #[])∧∃ p ln cp,(∀ w',Below w3.heap.size w3 w'→w'.cell? ⟨b,o+2,none⟩=some (.map (some bm))∧w'.cell? ⟨W.heap.size,4,none⟩=some (.int .i64 x)∧w'.cell? ⟨W.heap.size,5,none⟩=some (.int .i64 y)∧w'.cell? ⟨W.heap.size+1,0,none⟩=some (.slice p ln cp))∧(Instr.mapUpdate 128 (.map (some bm)) (.agg #[.int .i64 x,.int .i64 y]) (.slice p ln cp)).run Tryz.prog w3.drew=.ok () (mapAdd w3.drew bm es clock x y (.slice p ln cp))∧Hid (w3.heap[bm]?=some (.map es clock)∧w3.ownsRow (W.heap.size+1+1) 92 4 (.slice p ln cp) (inX t).length (evCs (inX t))∧(∀ i,i < W.heap.size+1→w3.heap[i]?=W2.heap[i]?)∧w3.heap[W.heap.size+1]?=some (.cells #[.slice p ln cp] 75 (0,0))∧W2.heap.size≤w3.heap.size∧w3.os=W2.os∧w3.tape=W2.tape∧w3.output=W2.output):=by
      refine c1.mono ?_
      rintro e w3 ⟨rfl,⟨v,hv,hown⟩,K⟩
      have hfr:∀ i,i < W.heap.size+1→w3.heap[i]?=W2.heap[i]?:=fun i hi=>K.block i (by omega) (by simp) (hno2 i hi)
      have hm3:w3.heap[bm]?=some (.map es clock):=(hfr bm (by omega)).trans (hm1 W2 B2)
      obtain ⟨p,ln,cp,rfl⟩:∃ p ln cp,v=.slice p ln cp:=by
        rcases Joins.ownsRow_forms hown with ⟨h,_⟩ | ⟨g',cap',h⟩
        · exact ⟨_,_,_,h⟩
        · exact ⟨_,_,_,h⟩
      refine ⟨rfl,p,ln,cp,?_,map_put bm es clock x y _ w3.drew hm3 hok.spans hno,hm3,hown,hfr,hv,K.size,K.os,K.tape,K.output⟩
      intro w' hb'
      have q1:=(hb'.block b (by have:=K.size;omega)).trans ((hfr b (by omega)).trans ((B2.block b (by omega)).trans ((hb1.block b hlt).trans hb)))
      have q2:=(hb'.block W.heap.size (by have:=K.size;omega)).trans ((hfr _ (by omega)).trans ((B2.block _ (by omega)).trans xs))
      have q3:=(hb'.block (W.heap.size+1) (by have:=K.size;omega)).trans hv
      exact ⟨row_cell q1 hc,row_cell q2 rfl,row_cell q2 rfl,row_cell q3 rfl⟩
    have hst:=(hcl W2 B2).2.1
    have HW2:Hid ((W1.alloc (.cells #[.slice none 0 0] 75)).drew=W2):=hW2
    clear hlk hlk0 c1 hTl hW2
    go_enter Tryz.func86,Tryz.ntmps86
    go_wp2
    go_region_held3 (fun w'=>(w'.cell? ⟨b,o+2,none⟩=some (.map (some bm))∧w'.cell? ⟨W.heap.size,4,none⟩=some (.int .i64 x)∧w'.cell? ⟨W.heap.size,5,none⟩=some (.int .i64 y))∧(Instr.lookup 128 (.map (some bm)) (.agg #[.int .i64 x,.int .i64 y]) true).run Tryz.prog w'=.ok (.tuple #[.slice none 0 0,.bool false]) w') (first | exact HK.out _ B2 | exact HK.out _ hB0 | exact HK.out _ (hB0.alloc (Nat.le_refl _) _) | exact HK.out _ ((hB0.alloc (Nat.le_refl _) _).setCell (Nat.le_refl _) _)) (fail)
    all_goals
      rw [HW2.out]
      go_wp2_with (go_at_call 99;refine c2.mono ?_;rintro e w3 ⟨rfl,p,ln,cp,hk3,hput,HF⟩)
      have HK3:Hid _:=hk3
      have hD3:Below w3.heap.size w3 w3.drew:=(Below.refl _ w3).drew
      have hm3:=HF.out.1
      obtain ⟨a1,a2,a3,a4,a5,a6⟩:=map_added bm es clock x y (.slice p ln cp) w3.drew hm3
      have HKA:Hid ((mapAdd w3.drew bm es clock x y (.slice p ln cp)).cell? ⟨b,o+2,none⟩=some (.map (some bm))∧(mapAdd w3.drew bm es clock x y (.slice p ln cp)).cell? ⟨W.heap.size,4,none⟩=some (.int .i64 x)∧(mapAdd w3.drew bm es clock x y (.slice p ln cp)).cell? ⟨W.heap.size,5,none⟩=some (.int .i64 y)∧(mapAdd w3.drew bm es clock x y (.slice p ln cp)).cell? ⟨W.heap.size+1,0,none⟩=some (.slice p ln cp)):=by
        have q1:=HF.out.2.2.1 b (by omega)
        refine ⟨?_,?_,?_,?_⟩
        · exact (World.cell?_of_block (w:=w3.drew) (a2 b hbm):_=w3.drew.cell? ⟨b,o+2,none⟩).trans (hk3 _ hD3).1
        · exact (World.cell?_of_block (w:=w3.drew) (a2 W.heap.size (by omega)):_=w3.drew.cell? ⟨W.heap.size,4,none⟩).trans (hk3 _ hD3).2.1
        · exact (World.cell?_of_block (w:=w3.drew) (a2 W.heap.size (by omega)):_=w3.drew.cell? ⟨W.heap.size,5,none⟩).trans (hk3 _ hD3).2.2.1
        · exact (World.cell?_of_block (w:=w3.drew) (a2 (W.heap.size+1) (by omega)):_=w3.drew.cell? ⟨W.heap.size+1,0,none⟩).trans (hk3 _ hD3).2.2.2
      clear hk3
      go_region_held3 (fun w'=>w'.cell? ⟨b,o+2,none⟩=some (.map (some bm))∧w'.cell? ⟨W.heap.size,4,none⟩=some (.int .i64 x)∧w'.cell? ⟨W.heap.size,5,none⟩=some (.int .i64 y)∧w'.cell? ⟨W.heap.size+1,0,none⟩=some (.slice p ln cp)) (first | exact HK3.out _ hD3 | exact HKA.out) (fail)
      obtain ⟨_,_,_,hl4⟩:=HKA.out
      go_wp2
      go_ret
      obtain ⟨_,own3,fr3,_,sz3,os3,tp3,op3⟩:=HF.out
      have frw:∀ i,i < W.heap.size→i ≠ bm→(mapAdd w3.drew bm es clock x y (.slice p ln cp)).heap[i]?=W.heap[i]?:=fun i hi hne=>(a2 i hne).trans ((fr3 i (by omega)).trans ((B2.block i (by omega)).trans (hb1.block i hi)))
      have hrow:EvRow (.slice p ln cp) (inX t) (mapAdd w3.drew bm es clock x y (.slice p ln cp)):=EvRow.keep (W:=w3) (Joins.ownsRow_le own3 (Nat.zero_le _)) (fun g hg=>a2 g (by have:=(own3.lt g hg).1;omega))
      refine ⟨p,ln,cp,_,_,rfl,hrow,a1,?_,⟨{ key:=.agg #[.int .i64 x,.int .i64 y],val:=.slice p ln cp,born:=clock },by simp,rfl⟩,?_,?_,frw,?_,a4.trans (os3.trans hB02.os),a5.trans (tp3.trans hB02.tape),a6.trans (op3.trans hB02.output)⟩
      · intro e' he'
        rw [Array.toList_push,List.mem_append,List.mem_singleton] at he'
        rcases he' with he' | rfl
        · obtain ⟨t',x',y',q1,q2,q3⟩:=hok e' he'
          refine ⟨t',x',y',q1,q2,q3.keep fun g hg=>frw g (q3.lt hg) (fun h=>?_)⟩
          obtain ⟨cur,hcur⟩:=q3.typ hg
          rw [h,hm] at hcur
          cases hcur
        · exact ⟨t,x,y,rfl,hin,hrow⟩
      · intro e' he'
        rw [Array.toList_push,List.mem_append,List.mem_singleton] at he'
        rcases he' with he' | rfl
        · exact Or.inl he'
        · exact Or.inr fun g hg=>by have:=(own3.lt g hg).1;omega
      · intro e' he'
        rw [Array.toList_push,List.mem_append]
        exact Or.inl he'
      · rw [a3]
        show _≤w3.heap.size
        omega
  · obtain ⟨t0,x0,y0,q1,q2,q3⟩:=hok e0 h2
    have hxy:=spK_inj (q1.symm.trans h3)
    obtain ⟨rfl,rfl⟩:=hxy
    have htt:=leaf_one hs0 q2 hin
    subst htt
    have key:∀ p ln cp,e0.val=.slice p ln cp→_:=fun p ln cp hvv=>by
      rw [hvv] at q3
      exact q3
    obtain ⟨p,ln,cp,hvv⟩:∃ p ln cp,e0.val=.slice p ln cp:=by
      rcases q3.2 with ⟨h,_⟩ | ⟨g,cap,cur,h,_⟩
      · exact ⟨_,_,_,h⟩
      · exact ⟨_,_,_,h⟩
    have hrowW:=key p ln cp hvv
    rw [hvv] at hlk0
    have HK:Hid (∀ w',Below W1.heap.size W1 w'→(w'.cell? ⟨b,o+2,none⟩=some (.map (some bm))∧w'.cell? ⟨W.heap.size,4,none⟩=some (.int .i64 x0)∧w'.cell? ⟨W.heap.size,5,none⟩=some (.int .i64 y0))∧(Instr.lookup 128 (.map (some bm)) (.agg #[.int .i64 x0,.int .i64 y0]) true).run Tryz.prog w'=.ok (.tuple #[.slice p ln cp,.bool true]) w'):=fun w' h=>⟨⟨(hcl w' h).1,(hcl w' h).2.2⟩,hlk0 w' (hm1 w' h)⟩
    obtain ⟨W2,hW2⟩:∃ W2,(W1.alloc (.cells #[.slice p ln cp] 75)).drew=W2:=⟨_,rfl⟩
    have B2:Below W1.heap.size W1 W2:=by rw [← hW2];exact ((Below.refl _ W1).alloc (Nat.le_refl _) _).drew
    have xl:W2.heap[W1.heap.size]?=some (.cells #[.slice p ln cp] 75 (0,0)):=by rw [← hW2];exact heap_alloc_new W1 _
    have hB02:Below W.heap.size W W2:=hb1.trans (B2.mono (by omega))
    have hl2:=cell_of_one xl
    rw [z1] at hl2
    have HW2:Hid ((W1.alloc (.cells #[.slice p ln cp] 75)).drew=W2):=hW2
    clear hlk0 hW2
    go_enter Tryz.func86,Tryz.ntmps86
    go_wp2
    go_region_held3 (fun w'=>(w'.cell? ⟨b,o+2,none⟩=some (.map (some bm))∧w'.cell? ⟨W.heap.size,4,none⟩=some (.int .i64 x0)∧w'.cell? ⟨W.heap.size,5,none⟩=some (.int .i64 y0))∧(Instr.lookup 128 (.map (some bm)) (.agg #[.int .i64 x0,.int .i64 y0]) true).run Tryz.prog w'=.ok (.tuple #[.slice p ln cp,.bool true]) w') (first | exact HK.out _ B2 | exact HK.out _ hB0 | exact HK.out _ (hB0.alloc (Nat.le_refl _) _) | exact HK.out _ ((hB0.alloc (Nat.le_refl _) _).setCell (Nat.le_refl _) _)) (fail)
    all_goals
      rw [HW2.out]
      go_wp2
      go_ret
      refine ⟨p,ln,cp,es,clock,rfl,hrowW.keep fun g hg=>hB02.block g (hrowW.lt hg),hm1 W2 B2,hok.keep fun e he g hg=>?_,⟨e0,h2,hvv⟩,fun e' he'=>Or.inl he',fun e' he'=>he',fun i hi _=>hB02.block i hi,hB02.size,hB02.os,hB02.tape,hB02.output⟩
      obtain ⟨t',x',y',q1',q2',q3'⟩:=hok e he
      exact hB02.block g (q3'.lt hg)
end Go.Proofs.YtljcljipppjnoaaGreatDoor
namespace Go.Proofs.YtljcljipppjnoaaGreatDoor
open Go.RowKit Go.Shelf
def EvAt (b o k:Nat) (v:Value) (bm:Nat) (es:Array MapEntry) (clock:Nat) (c:Array Value) (T:TypeId) (W:World):Prop :=
  W.heap[b]?=some (.cells c T (0,0))∧c[o]?=some v∧c[o+1]?=some (.int .i64 k)∧c[o+2]?=some (.map (some bm))∧W.heap[bm]?=some (.map es clock)
structure EvS (b o:Nat) (S0 S:List Stp) (k:Nat) (W:World):Prop where
  suf:S <:+ S0
  sp:∃ n,SpIn 0 n S0
  txt:∀ t x y,Stp.leaf t x y ∈ S0→t.length≤16777216
  small:(∀ t x y,Stp.leaf t x y ∈ S0→(inX t).length≤1099511627776)
  told:(∀ e r,S=.ev e :: r→k=0)∧(S=[]→k=0)∧∀ t x y r,S=.leaf t x y :: r→k≤(inX t).length
  box:∃ v bm es clock c T,EvAt b o k v bm es clock c T W∧(T ≠ 166∧T ≠ 92)∧StpV v S W∧MapOk es S0 W
def EvOwn (b o:Nat) (W:World) (x:Nat):Prop :=
  x=b∨∃ c T,W.heap[b]?=some (.cells c T (0,0))∧((∃ v,c[o]?=some v∧v.ownBlock=some x)∨∃ bm,c[o+2]?=some (.map (some bm))∧(x=bm∨∃ es clock e,W.heap[bm]?=some (.map es clock)∧e ∈ es.toList∧e.val.ownBlock=some x))
structure Kv (Ow:World→Nat→Prop) (W w':World):Prop where
  os:w'.os=W.os
  tape:w'.tape=W.tape
  output:w'.output=W.output
  size:W.heap.size≤w'.heap.size
  block:∀ b,b < W.heap.size→¬ Ow W b→w'.heap[b]?=W.heap[b]?
  own:∀ b,b < W.heap.size→Ow w' b→Ow W b
theorem Kv.refl (Ow:World→Nat→Prop) (W:World):Kv Ow W W:=⟨rfl,rfl,rfl,Nat.le_refl _,fun _ _ _=>rfl,fun _ _ h=>h⟩
theorem Kv.trans {Ow:World→Nat→Prop} {a b c:World} (h:Kv Ow a b) (k:Kv Ow b c):Kv Ow a c :=
  ⟨k.os.trans h.os,k.tape.trans h.tape,k.output.trans h.output,Nat.le_trans h.size k.size,fun i hi ho=>(k.block i (Nat.lt_of_lt_of_le hi h.size) fun ho'=>ho (h.own i hi ho')).trans (h.block i hi ho),fun i hi ho=>h.own i hi (k.own i (Nat.lt_of_lt_of_le hi h.size) ho)⟩
theorem ev_kv {b o k k':Nat} {v v':Value} {bm:Nat} {es es':Array MapEntry} {clock clock':Nat} {c c':Array Value} {T T':TypeId} {W w':World} (h:EvAt b o k v bm es clock c T W) (h':EvAt b o k' v' bm es' clock' c' T' w')
    (hv:∀ x,v'.ownBlock=some x→v.ownBlock=some x∨W.heap.size≤x) (hes:∀ e ∈ es'.toList,e ∈ es.toList∨∀ g,e.val.ownBlock=some g→W.heap.size≤g) (hfr:∀ i,i < W.heap.size→i ≠ b→i ≠ bm→w'.heap[i]?=W.heap[i]?) (hz:W.heap.size≤w'.heap.size) (h1:w'.os=W.os) (h2:w'.tape=W.tape) (h3:w'.output=W.output):Kv (EvOwn b o) W w':=by
  obtain ⟨a1,a2,a3,a4,a5⟩:=h
  obtain ⟨b1,b2,b3,b4,b5⟩:=h'
  refine ⟨h1,h2,h3,hz,fun i hi ho=>hfr i hi (fun e=>ho (Or.inl e)) (fun e=>ho (Or.inr ⟨c,T,a1,Or.inr ⟨bm,a4,Or.inl e⟩⟩)),fun i hi ho=>?_⟩
  rcases ho with ho | ⟨d,U,q1,q2⟩
  · exact Or.inl ho
  · rw [b1] at q1
    injection q1 with q1
    injection q1 with q1 _
    subst q1
    rcases q2 with ⟨u,q3,q4⟩ | ⟨bm',q3,q4⟩
    · rw [b2] at q3
      injection q3 with q3
      subst q3
      rcases hv i q4 with hv | hv
      · exact Or.inr ⟨c,T,a1,Or.inl ⟨v,a2,hv⟩⟩
      · omega
    · rw [b4] at q3
      injection q3 with q3
      injection q3 with q3
      injection q3 with q3
      subst q3
      rcases q4 with q4 | ⟨es2,cl2,e,q5,q6,q7⟩
      · exact Or.inr ⟨c,T,a1,Or.inr ⟨bm,a4,Or.inl q4⟩⟩
      · rw [b5] at q5
        injection q5 with q5
        injection q5 with q5 _
        subst q5
        rcases hes e q6 with q8 | q8
        · exact Or.inr ⟨c,T,a1,Or.inr ⟨bm,a4,Or.inr ⟨es,clock,e,a5,q8,q7⟩⟩⟩
        · have:=q8 i q7
          omega
theorem EvS.lt {b o:Nat} {S0 S:List Stp} {k:Nat} {W:World} (h:EvS b o S0 S k W) {x:Nat} (hx:EvOwn b o W x):x < W.heap.size:=by
  obtain ⟨v,bm,es,clock,c,T,⟨a1,a2,a3,a4,a5⟩,_,hv,hm⟩:=h.box
  rcases hx with rfl | ⟨d,U,q1,q2⟩
  · exact lt_of_block a1
  · rw [a1] at q1
    injection q1 with q1
    injection q1 with q1 _
    subst q1
    rcases q2 with ⟨u,q3,q4⟩ | ⟨bm',q3,q4⟩
    · rw [a2] at q3
      injection q3 with q3
      subst q3
      obtain ⟨cur,hc⟩:=hv.typ q4
      exact lt_of_block hc
    · rw [a4] at q3
      injection q3 with q3
      injection q3 with q3
      injection q3 with q3
      subst q3
      rcases q4 with rfl | ⟨es2,cl2,e,q5,q6,q7⟩
      · exact (Array.getElem?_eq_some_iff.1 a5).1
      · rw [a5] at q5
        injection q5 with q5
        injection q5 with q5 _
        subst q5
        obtain ⟨t,x',y,_,_,h3⟩:=hm e q6
        exact h3.lt q7
theorem EvS.keep {b o:Nat} {S0 S:List Stp} {k:Nat} {W w':World} (h:EvS b o S0 S k W) (hk:∀ x,EvOwn b o W x→w'.heap[x]?=W.heap[x]?):EvS b o S0 S k w'∧∀ x,EvOwn b o w' x→EvOwn b o W x:=by
  obtain ⟨v,bm,es,clock,c,T,⟨a1,a2,a3,a4,a5⟩,hT,hv,hm⟩:=h.box
  have k1:=hk b (Or.inl rfl)
  have k2:=hk bm (Or.inr ⟨c,T,a1,Or.inr ⟨bm,a4,Or.inl rfl⟩⟩)
  refine ⟨⟨h.suf,h.sp,h.txt,h.small,h.told,v,bm,es,clock,c,T,⟨k1.trans a1,a2,a3,a4,k2.trans a5⟩,hT,hv.keep fun g hg=>hk g (Or.inr ⟨c,T,a1,Or.inl ⟨v,a2,hg⟩⟩),hm.keep fun e he g hg=>hk g (Or.inr ⟨c,T,a1,Or.inr ⟨bm,a4,Or.inr ⟨es,clock,e,a5,he,hg⟩⟩⟩)⟩,fun x ho=>?_⟩
  rcases ho with ho | ⟨d,U,q1,q2⟩
  · exact Or.inl ho
  · rw [k1] at q1
    refine Or.inr ⟨d,U,q1,q2.imp id fun ⟨bm',q3,q4⟩=>⟨bm',q3,q4.imp id fun ⟨es2,cl2,e,q5,q6,q7⟩=>⟨es2,cl2,e,?_,q6,q7⟩⟩⟩
    rw [a1] at q1
    injection q1 with q1
    injection q1 with q1 _
    subst q1
    rw [a4] at q3
    injection q3 with q3
    injection q3 with q3
    injection q3 with q3
    subst q3
    rw [← k2]
    exact q5
theorem suf_mem {S S0:List Stp} (h:S <:+ S0) {s:Stp} {r:List Stp} (hs:S=s :: r):s ∈ S0:=by
  subst hs
  exact h.subset (by simp)
theorem suf_tail {S0:List Stp} {s:Stp} {r:List Stp} (h:s :: r <:+ S0):r <:+ S0:=(List.suffix_cons s r).trans h
theorem StpV.head {v:Value} {s:Stp} {r:List Stp} {W:World} (h:StpV v (s :: r) W):∃ g o cap,v=.slice (some ⟨g,o,none⟩) (r.length+1) cap∧r.length+1≤cap∧cap≤9223372036854775807∧(∀ j u,(stpCells s)[j]?=some u→W.cell? ⟨g,o+j,none⟩=some u)∧StpV (.slice (some ⟨g,o+6,none⟩) r.length (cap - 1)) r W∧(cap=1→StpV (.slice (some ⟨g,o,none⟩) r.length 0) r W):=by
  rcases h with ⟨h,_⟩ | ⟨g,o,cap,cur,hv,h1,h2,h3,h4⟩
  · cases h
  · rw [List.length_cons] at hv h1
    refine ⟨g,o,cap,hv,h1,h2,fun j u hj=>?_,Or.inr ⟨g,o+6,cap - 1,cur,rfl,by omega,by omega,h3,fun i s' hi j u hj=>?_⟩,fun hc=>Or.inr ⟨g,o,0,cur,rfl,by omega,by omega,h3,fun i s' hi j u hj=>?_⟩⟩
    · have:=h4 0 s rfl j u hj
      rw [Nat.zero_mul,Nat.add_zero] at this
      exact row_cell h3 this
    · have:=h4 (i+1) s' (by simpa using hi) j u hj
      rw [show o+6+i * 6+j=o+(i+1) * 6+j by omega]
      exact this
    · have:i < r.length:=(List.getElem?_eq_some_iff.1 hi).1
      omega
end Go.Proofs.YtljcljipppjnoaaGreatDoor
namespace Go.Proofs.YtljcljipppjnoaaGreatDoor
open Go.RowKit Go.Shelf
def OB (b o:Nat) (W w':World):Prop:=∀ c T,W.heap[b]?=some (.cells c T (0,0))→∃ c',w'.heap[b]?=some (.cells c' T (0,0))∧c'.size=c.size∧∀ i,i ≠ o→i ≠ o+1→c'[i]?=c[i]?
theorem OB.same {b o:Nat} {W w':World} (h:w'.heap[b]?=W.heap[b]?):OB b o W w':=fun c _ hc=>⟨c,h.trans hc,rfl,fun _ _ _=>rfl⟩
theorem OB.trans {b o:Nat} {A B C:World} (h:OB b o A B) (k:OB b o B C):OB b o A C:=fun c T hc=>by
  obtain ⟨c1,h1,h2,h3⟩:=h c T hc
  obtain ⟨c2,k1,k2,k3⟩:=k c1 T h1
  exact ⟨c2,k1,k2.trans h2,fun i a b=>(k3 i a b).trans (h3 i a b)⟩
theorem OB.setL {b o:Nat} (W:World) (v:Value):OB b o W (W.setCell ⟨b,o,none⟩ v):=fun _ _ hc=>⟨_,set_row hc,by simp,fun i h1 _=>by rw [Array.getElem?_setIfInBounds_ne (fun h=>h1 h.symm)]⟩
theorem OB.setK {b o:Nat} (W:World) (v:Value):OB b o W (W.setCell ⟨b,o+1,none⟩ v):=fun _ _ hc=>⟨_,set_row hc,by simp,fun i _ h1=>by rw [Array.getElem?_setIfInBounds_ne (fun h=>h1 h.symm)]⟩
theorem EvAt.ne {b o k:Nat} {v:Value} {bm:Nat} {es:Array MapEntry} {clock:Nat} {c:Array Value} {T:TypeId} {W:World} (h:EvAt b o k v bm es clock c T W):b ≠ bm:=fun e=>by
  obtain ⟨h1,_,_,_,h5⟩:=h
  rw [e,h5] at h1
  cases h1
theorem EvAt.lt {b o k:Nat} {v:Value} {bm:Nat} {es:Array MapEntry} {clock:Nat} {c:Array Value} {T:TypeId} {W:World} (h:EvAt b o k v bm es clock c T W):b < W.heap.size∧bm < W.heap.size:=⟨lt_of_block h.1,(Array.getElem?_eq_some_iff.1 h.2.2.2.2).1⟩
theorem EvAt.setL {b o k:Nat} {v:Value} {bm:Nat} {es:Array MapEntry} {clock:Nat} {c:Array Value} {T:TypeId} {W:World} (h:EvAt b o k v bm es clock c T W) (v':Value):EvAt b o k v' bm es clock (c.setIfInBounds o v') T (W.setCell ⟨b,o,none⟩ v'):=by
  have hne:=h.ne
  obtain ⟨h1,h2,h3,h4,h5⟩:=h
  have ho:o < c.size:=(Array.getElem?_eq_some_iff.1 h2).1
  exact ⟨set_row h1,Array.getElem?_setIfInBounds_self_of_lt ho,by rw [Array.getElem?_setIfInBounds_ne (by omega)];exact h3,by rw [Array.getElem?_setIfInBounds_ne (by omega)];exact h4,by rw [Below.heap_setCell _ _ _ _ (fun e=>hne e.symm)];exact h5⟩
theorem EvAt.setK {b o k:Nat} {v:Value} {bm:Nat} {es:Array MapEntry} {clock:Nat} {c:Array Value} {T:TypeId} {W:World} (h:EvAt b o k v bm es clock c T W) (k':Nat):EvAt b o k' v bm es clock (c.setIfInBounds (o+1) (.int .i64 k')) T (W.setCell ⟨b,o+1,none⟩ (.int .i64 k')):=by
  have hne:=h.ne
  obtain ⟨h1,h2,h3,h4,h5⟩:=h
  have ho:o+1 < c.size:=(Array.getElem?_eq_some_iff.1 h3).1
  exact ⟨set_row h1,by rw [Array.getElem?_setIfInBounds_ne (by omega)];exact h2,Array.getElem?_setIfInBounds_self_of_lt ho,by rw [Array.getElem?_setIfInBounds_ne (by omega)];exact h4,by rw [Below.heap_setCell _ _ _ _ (fun e=>hne e.symm)];exact h5⟩
theorem EvAt.same {b o k:Nat} {v:Value} {bm:Nat} {es:Array MapEntry} {clock:Nat} {c:Array Value} {T:TypeId} {W w':World} (h:EvAt b o k v bm es clock c T W) (h1:w'.heap[b]?=W.heap[b]?) (h2:w'.heap[bm]?=W.heap[bm]?):EvAt b o k v bm es clock c T w':=⟨h1.trans h.1,h.2.1,h.2.2.1,h.2.2.2.1,h2.trans h.2.2.2.2⟩
theorem four_set {w:World} {b:Nat} {x y z u x' y' z' u':Value} {T:TypeId} (h:w.heap[b]?=some (.cells #[x,y,z,u] T (0,0))) :
    ((((w.setCell ⟨b,0,none⟩ x').setCell ⟨b,1,none⟩ y').setCell ⟨b,2,none⟩ z').setCell ⟨b,3,none⟩ u').heap[b]?=some (.cells #[x',y',z',u'] T (0,0))∧(∀ c,c ≠ b→((((w.setCell ⟨b,0,none⟩ x').setCell ⟨b,1,none⟩ y').setCell ⟨b,2,none⟩ z').setCell ⟨b,3,none⟩ u').heap[c]?=w.heap[c]?)∧((((w.setCell ⟨b,0,none⟩ x').setCell ⟨b,1,none⟩ y').setCell ⟨b,2,none⟩ z').setCell ⟨b,3,none⟩ u').heap.size=w.heap.size:=by
  refine ⟨?_,?_,by simp⟩
  · have h1:(w.setCell ⟨b,0,none⟩ x').heap[b]?=some (.cells #[x',y,z,u] T (0,0)):=set_row h
    have h2:((w.setCell ⟨b,0,none⟩ x').setCell ⟨b,1,none⟩ y').heap[b]?=some (.cells #[x',y',z,u] T (0,0)):=set_row h1
    have h3:(((w.setCell ⟨b,0,none⟩ x').setCell ⟨b,1,none⟩ y').setCell ⟨b,2,none⟩ z').heap[b]?=some (.cells #[x',y',z',u] T (0,0)):=set_row h2
    exact set_row h3
  · intro c hc
    rw [Below.heap_setCell _ _ _ _ hc,Below.heap_setCell _ _ _ _ hc,Below.heap_setCell _ _ _ _ hc,Below.heap_setCell _ _ _ _ hc]
theorem cells4 {w:World} {b:Nat} {x y z u:Value} {T:TypeId} (h:w.heap[b]?=some (.cells #[x,y,z,u] T (0,0))):w.cell? ⟨b,0,none⟩=some x∧w.cell? ⟨b,1,none⟩=some y∧w.cell? ⟨b,2,none⟩=some z∧w.cell? ⟨b,3,none⟩=some u:=by
  have c1:=cell_of_row w b 0 _ _ _ h
  have c2:=cell_of_row w b 1 _ _ _ h
  have c3:=cell_of_row w b 2 _ _ _ h
  have c4:=cell_of_row w b 3 _ _ _ h
  simp at c1 c2 c3 c4
  exact ⟨c1,c2,c3,c4⟩
def NextOk (b o:Nat) (S0:List Stp) (S:List Stp) (k:Nat) (W:World) (e:Ending) (w':World):Prop :=
  ∃ (ev:Ev) (ok:Bool) (S':List Stp) (k':Nat),e=.returned (.tuple #[evV ev,.bool ok])∧EvS b o S0 S' k' w'∧Kv (EvOwn b o) W w'∧OB b o W w'∧((ok=true∧remS S k=ev :: remS S' k')∨(ok=false∧ev=⟨0,false,0,[]⟩∧remS S k=[]∧remS S' k'=[]))
structure PullAt (b o:Nat) (S0:List Stp) (W:World) (S1:List Stp) (k1:Nat) (wr:World):Prop where
  st:EvS b o S0 S1 k1 wr
  kv:Kv (EvOwn b o) W wr
  ob:OB b o W wr
  off:∀ x,EvOwn b o wr x→EvOwn b o W x∨W.heap.size < x
  res:wr.heap[W.heap.size]?=some (.cells #[.int .i64 0,.bool false,.int .i64 0,.string ⟨#[]⟩] 92 (0,0))
theorem PullAt.answer {b o:Nat} {S0 S:List Stp} {k:Nat} {W wr:World} {S1:List Stp} {k1:Nat} (h0:EvS b o S0 S k W) (h:PullAt b o S0 W S1 k1 wr) (x y z u:Value) :
    let X:=(((wr.setCell ⟨W.heap.size,0,none⟩ x).setCell ⟨W.heap.size,1,none⟩ y).setCell ⟨W.heap.size,2,none⟩ z).setCell ⟨W.heap.size,3,none⟩ u
    EvS b o S0 S1 k1 X∧Kv (EvOwn b o) W X∧OB b o W X∧X.cell? ⟨W.heap.size,0,none⟩=some x∧X.cell? ⟨W.heap.size,1,none⟩=some y∧X.cell? ⟨W.heap.size,2,none⟩=some z∧X.cell? ⟨W.heap.size,3,none⟩=some u:=by
  intro X
  obtain ⟨q1,q2,q3⟩:=four_set (x':=x) (y':=y) (z':=z) (u':=u) h.res
  have hno:¬ EvOwn b o wr W.heap.size:=fun ho=>by
    rcases h.off _ ho with h1 | h1
    · have:=h0.lt h1
      omega
    · omega
  have hkeep:∀ c,EvOwn b o wr c→X.heap[c]?=wr.heap[c]?:=fun c hc=>q2 c (fun e=>hno (e ▸ hc))
  obtain ⟨s1,s2⟩:=h.st.keep hkeep
  have hkv:Kv (EvOwn b o) W X:=⟨h.kv.os,h.kv.tape,h.kv.output,by rw [q3];exact h.kv.size,fun i hi ho=>(q2 i (by omega)).trans (h.kv.block i hi ho),fun i hi ho=>h.kv.own i hi (s2 i ho)⟩
  have hb:b ≠ W.heap.size:=fun e=>hno (by rw [← e];exact Or.inl rfl)
  exact ⟨s1,hkv,h.ob.trans (OB.same (q2 b hb)),cells4 q1⟩
theorem PullAt.go {b o:Nat} {S0 S S1 S':List Stp} {k k1 k':Nat} {W wr w':World} {v v':Value} {bm:Nat} {es es':Array MapEntry} {clock clock':Nat} {c c':Array Value} {T T':TypeId} (h0:EvS b o S0 S k W) (h:PullAt b o S0 W S1 k1 wr) (ha:EvAt b o k1 v bm es clock c T wr) (ha':EvAt b o k' v' bm es' clock' c' T' w') (hst:EvS b o S0 S' k' w')
    (hv:∀ x,v'.ownBlock=some x→v.ownBlock=some x∨wr.heap.size≤x) (hes:∀ e ∈ es'.toList,e ∈ es.toList∨∀ g,e.val.ownBlock=some g→wr.heap.size≤g) (hfr:∀ i,i < wr.heap.size→i ≠ b→i ≠ bm→w'.heap[i]?=wr.heap[i]?) (hz:wr.heap.size≤w'.heap.size) (h1:w'.os=wr.os) (h2:w'.tape=wr.tape) (h3:w'.output=wr.output) (hob:OB b o wr w'):PullAt b o S0 W S' k' w':=by
  have kv:=ev_kv ha ha' hv hes hfr hz h1 h2 h3
  have hlt:=lt_of_block h.res
  have hbm:EvOwn b o wr bm:=Or.inr ⟨c,T,ha.1,Or.inr ⟨bm,ha.2.2.2.1,Or.inl rfl⟩⟩
  refine ⟨hst,h.kv.trans kv,h.ob.trans hob,fun x hx=>?_,?_⟩
  · rcases Nat.lt_or_ge x wr.heap.size with hl | hl
    · exact h.off x (kv.own x hl hx)
    · exact Or.inr (by omega)
  · rw [hfr W.heap.size hlt (fun e=>by have:=h0.lt (x:=b) (Or.inl rfl);omega) (fun e=>?_)]
    · exact h.res
    · rcases h.off bm hbm with h4 | h4
      · have:=h0.lt h4
        omega
      · omega
theorem PullAt.below {b o:Nat} {S0 S S1:List Stp} {k k1:Nat} {W wr w':World} (h0:EvS b o S0 S k W) (h:PullAt b o S0 W S1 k1 wr) (hb:Below wr.heap.size wr w'):PullAt b o S0 W S1 k1 w':=by
  obtain ⟨v,bm,es,clock,c,T,ha,_⟩:=h.st.box
  obtain ⟨s1,_⟩:=h.st.keep (w':=w') fun x hx=>hb.block x (h.st.lt hx)
  exact PullAt.go h0 h ha (ha.same (hb.block b ha.lt.1) (hb.block bm ha.lt.2)) s1 (fun _ hx=>Or.inl hx) (fun _ he=>Or.inl he) (fun i hi _ _=>hb.block i hi) hb.size hb.os hb.tape hb.output (OB.same (hb.block b ha.lt.1))
theorem PullAt.pop {b o:Nat} {S0 S r:List Stp} {k k1:Nat} {W wr:World} {s:Stp} {g og cap bm:Nat} {es:Array MapEntry} {clock:Nat} {c:Array Value} {T:TypeId} (h0:EvS b o S0 S k W) (h:PullAt b o S0 W (s :: r) k1 wr) (ha:EvAt b o k1 (.slice (some ⟨g,og,none⟩) (r.length+1) cap) bm es clock c T wr) (hT:T ≠ 166∧T ≠ 92) (hm:MapOk es S0 wr) (v':Value) (hv':StpV v' r wr) (hov:∀ x,v'.ownBlock=some x→x=g) :
    PullAt b o S0 W r 0 ((wr.setCell ⟨b,o,none⟩ v').setCell ⟨b,o+1,none⟩ (.int .i64 (0:Nat))):=by
  have ha':=(ha.setL v').setK 0
  have hfr:∀ i,i ≠ b→((wr.setCell ⟨b,o,none⟩ v').setCell ⟨b,o+1,none⟩ (.int .i64 (0:Nat))).heap[i]?=wr.heap[i]?:=fun i hne=>(Below.heap_setCell _ _ _ _ hne).trans (Below.heap_setCell _ _ _ _ hne)
  have hst:EvS b o S0 r 0 ((wr.setCell ⟨b,o,none⟩ v').setCell ⟨b,o+1,none⟩ (.int .i64 (0:Nat))):=by
    refine ⟨suf_tail h.st.suf,h.st.sp,h.st.txt,h.st.small,⟨fun _ _ _=>rfl,fun _=>rfl,fun _ _ _ _ _=>Nat.zero_le _⟩,_,_,_,_,_,_,ha',hT,hv'.keep fun x hx=>?_,hm.keep fun e' he' x hx=>?_⟩
    · obtain ⟨cur',hc'⟩:=hv'.typ hx
      exact hfr x (fun e=>by
        rw [e,ha.1] at hc'
        injection hc' with hc'
        injection hc' with _ hc' _
        exact hT.1 hc')
    · obtain ⟨t',x',y',_,_,h3⟩:=hm e' he'
      obtain ⟨cur',hc'⟩:=h3.typ hx
      exact hfr x (fun e=>by
        rw [e,ha.1] at hc'
        injection hc' with hc'
        injection hc' with _ hc' _
        exact hT.2 hc')
  exact PullAt.go h0 h ha ha' hst (fun x hx=>Or.inl (by rw [hov x hx];rfl)) (fun e' he'=>Or.inl he') (fun i _ hne _=>hfr i hne) (by simp) rfl rfl rfl ((OB.setL _ _).trans (OB.setK _ _))
theorem PullAt.pop0 {b o:Nat} {S0 S r:List Stp} {k:Nat} {W wr:World} {e:Ev} {g og cap bm:Nat} {es:Array MapEntry} {clock:Nat} {c:Array Value} {T:TypeId} (h0:EvS b o S0 S k W) (h:PullAt b o S0 W (.ev e :: r) 0 wr) (ha:EvAt b o 0 (.slice (some ⟨g,og,none⟩) (r.length+1) cap) bm es clock c T wr) (hT:T ≠ 166∧T ≠ 92) (hm:MapOk es S0 wr) (v':Value) (hv':StpV v' r wr) (hov:∀ x,v'.ownBlock=some x→x=g) :
    PullAt b o S0 W r 0 (wr.setCell ⟨b,o,none⟩ v'):=by
  have ha':=ha.setL v'
  have hfr:∀ i,i ≠ b→(wr.setCell ⟨b,o,none⟩ v').heap[i]?=wr.heap[i]?:=fun i hne=>Below.heap_setCell _ _ _ _ hne
  have hst:EvS b o S0 r 0 (wr.setCell ⟨b,o,none⟩ v'):=by
    refine ⟨suf_tail h.st.suf,h.st.sp,h.st.txt,h.st.small,⟨fun _ _ _=>rfl,fun _=>rfl,fun _ _ _ _ _=>Nat.zero_le _⟩,_,_,_,_,_,_,ha',hT,hv'.keep fun x hx=>?_,hm.keep fun e' he' x hx=>?_⟩
    · obtain ⟨cur',hc'⟩:=hv'.typ hx
      exact hfr x (fun e=>by
        rw [e,ha.1] at hc'
        injection hc' with hc'
        injection hc' with _ hc' _
        exact hT.1 hc')
    · obtain ⟨t',x',y',_,_,h3⟩:=hm e' he'
      obtain ⟨cur',hc'⟩:=h3.typ hx
      exact hfr x (fun e=>by
        rw [e,ha.1] at hc'
        injection hc' with hc'
        injection hc' with _ hc' _
        exact hT.2 hc')
  exact PullAt.go h0 h ha ha' hst (fun x hx=>Or.inl (by rw [hov x hx];rfl)) (fun e' he'=>Or.inl he') (fun i _ hne _=>hfr i hne) (by simp) rfl rfl rfl (OB.setL _ _)
theorem PullAt.tell {b o:Nat} {S0 S r:List Stp} {k k1:Nat} {W wr:World} {t:List UInt8} {x y:Nat} (h0:EvS b o S0 S k W) (h:PullAt b o S0 W (.leaf t x y :: r) k1 wr) (hk:k1 < (inX t).length) :
    PullAt b o S0 W (.leaf t x y :: r) (k1+1) (wr.setCell ⟨b,o+1,none⟩ (.int .i64 ((k1+1:Nat):Int))):=by
  obtain ⟨v,bm,es,clock,c,T,ha,hT,hv,hm⟩:=h.st.box
  have ha':=ha.setK (k1+1)
  have hfr:∀ i,i ≠ b→(wr.setCell ⟨b,o+1,none⟩ (.int .i64 ((k1+1:Nat):Int))).heap[i]?=wr.heap[i]?:=fun i hne=>Below.heap_setCell _ _ _ _ hne
  have hst:EvS b o S0 (.leaf t x y :: r) (k1+1) (wr.setCell ⟨b,o+1,none⟩ (.int .i64 ((k1+1:Nat):Int))):=by
    refine ⟨h.st.suf,h.st.sp,h.st.txt,h.st.small,⟨fun _ _ he=>(by cases he),fun he=>(by cases he),fun t' x' y' r' he=>(by cases he;exact hk)⟩,_,_,_,_,_,_,ha',hT,hv.keep fun z hz=>?_,hm.keep fun e' he' z hz=>?_⟩
    · obtain ⟨cur',hc'⟩:=hv.typ hz
      exact hfr z (fun e=>by
        rw [e,ha.1] at hc'
        injection hc' with hc'
        injection hc' with _ hc' _
        exact hT.1 hc')
    · obtain ⟨t',x',y',_,_,h3⟩:=hm e' he'
      obtain ⟨cur',hc'⟩:=h3.typ hz
      exact hfr z (fun e=>by
        rw [e,ha.1] at hc'
        injection hc' with hc'
        injection hc' with _ hc' _
        exact hT.2 hc')
  exact PullAt.go h0 h ha ha' hst (fun z hz=>Or.inl hz) (fun e' he'=>Or.inl he') (fun i _ hne _=>hfr i hne) (by simp) rfl rfl rfl (OB.setK _ _)
end Go.Proofs.YtljcljipppjnoaaGreatDoor
namespace Go.Proofs.YtljcljipppjnoaaGreatDoor
open Go.RowKit Go.Shelf
theorem PullAt.stood {b o:Nat} {S0 S r:List Stp} {k k1:Nat} {W wr w':World} {t:List UInt8} {x y:Nat} {v:Value} {bm:Nat} {es es':Array MapEntry} {clock clock':Nat} {c:Array Value} {T:TypeId} (h0:EvS b o S0 S k W) (h:PullAt b o S0 W (.leaf t x y :: r) k1 wr) (ha:EvAt b o k1 v bm es clock c T wr) (hT:T ≠ 166∧T ≠ 92) (hv:StpV v (.leaf t x y :: r) wr)
    (hm':w'.heap[bm]?=some (.map es' clock')) (hok:MapOk es' S0 w') (hes:∀ e' ∈ es'.toList,e' ∈ es.toList∨∀ g,e'.val.ownBlock=some g→wr.heap.size≤g) (hfr:∀ i,i < wr.heap.size→i ≠ bm→w'.heap[i]?=wr.heap[i]?) (hz:wr.heap.size≤w'.heap.size) (h1:w'.os=wr.os) (h2:w'.tape=wr.tape) (h3:w'.output=wr.output) :
    PullAt b o S0 W (.leaf t x y :: r) k1 w'∧EvAt b o k1 v bm es' clock' c T w'∧StpV v (.leaf t x y :: r) w':=by
  have hne:=ha.ne
  have hlt:=ha.lt
  have hb:=hfr b hlt.1 hne
  have ha':EvAt b o k1 v bm es' clock' c T w':=⟨hb.trans ha.1,ha.2.1,ha.2.2.1,ha.2.2.2.1,hm'⟩
  have hv':StpV v (.leaf t x y :: r) w':=hv.keep fun g hg=>by
    obtain ⟨cur,hc⟩:=hv.typ hg
    refine hfr g (lt_of_block hc) fun e=>?_
    rw [e,ha.2.2.2.2] at hc
    cases hc
  exact ⟨PullAt.go h0 h ha ha' ⟨h.st.suf,h.st.sp,h.st.txt,h.st.small,h.st.told,v,bm,es',clock',c,T,ha',hT,hv',hok⟩ (fun _ hx=>Or.inl hx) hes (fun i hi _ hi2=>hfr i hi hi2) hz h1 h2 h3 (OB.same hb),ha',hv'⟩
theorem cell_lt3 {w:World} {b i:Nat} {v:Value} (h:w.cell? ⟨b,i,none⟩=some v):b < w.heap.size:=by
  rcases Nat.lt_or_ge b w.heap.size with h' | h'
  · exact h'
  · simp [World.cell?,Array.getElem?_eq_none h'] at h
theorem EvRow.forms {p:Option Addr} {ln cp:Nat} {l:List Ev} {W:World} (h:EvRow (.slice p ln cp) l W):ln=l.length∧(l=[]∨∃ g,p=some ⟨g,0,none⟩∧l.length≤cp∧(∃ cur,W.heap[g]?=some (.cells cur 92 (0,0)))∧∀ k e,l[k]?=some e→W.cell? ⟨g,k * 4,none⟩=some (.int .i64 e.kind)∧W.cell? ⟨g,k * 4+1,none⟩=some (.bool e.fin)∧W.cell? ⟨g,k * 4+2,none⟩=some (.int .i64 e.level)∧W.cell? ⟨g,k * 4+3,none⟩=some (.string ⟨e.text.toArray⟩)):=by
  have h':W.ownsRow 0 92 4 (.slice p ln cp) l.length (evCs l):=h
  rcases h.2 with ⟨h0,h1⟩ | ⟨g,cap,cur,hv,_,hh,hc,_⟩
  · injection h0 with h0 h2 h3
    exact ⟨by rw [h2,h1],Or.inl (List.eq_nil_of_length_eq_zero h1)⟩
  · injection hv with hv h2 h3
    refine ⟨h2,Or.inr ⟨g,hv,by rw [h3];exact hc,⟨cur,hh⟩,fun k e he=>?_⟩⟩
    have hcl:∀ j u,(evCs l)[j]?=some u→W.cell? ⟨g,j,none⟩=some u:=fun j u hj=>by
      have:=h'.cells (g:=g) (by rw [hv];rfl) j u hj
      rw [Addr.add_lit,Nat.zero_add] at this
      exact this
    obtain ⟨q0,q1,q2,q3⟩:=evCs_at l k e he
    exact ⟨hcl _ _ q0,hcl _ _ q1,hcl _ _ q2,hcl _ _ q3⟩
set_option maxRecDepth 100000 in
set_option maxHeartbeats 1500000 in
theorem next_any (b o:Nat) (S0 S:List Stp) (k:Nat) (m:Int) (W:World) (h:EvS b o S0 S k W) (hmo:¬ EvOwn b o W 6) (hml:W.cell? ⟨6,0,none⟩=some (.int .i64 m)) :
    Calls Tryz.prog 68 #[.pointer (some ⟨b,o,none⟩)] W (NextOk b o S0 S k W):=by
  have hmx:6 < W.heap.size:=by
    rcases Nat.lt_or_ge 6 W.heap.size with h | h
    · exact h
    · simp [World.cell?,Array.getElem?_eq_none h] at hml
  obtain ⟨W1,hW1⟩:∃ W1,W.alloc (.cells #[.int .i64 0,.bool false,.int .i64 0,.string ⟨#[]⟩] 92)=W1:=⟨_,rfl⟩
  have hb1:Below W.heap.size W W1:=by rw [← hW1];exact (Below.refl _ W).alloc (Nat.le_refl _) _
  have x1:W1.heap[W.heap.size]?=some (.cells #[.int .i64 0,.bool false,.int .i64 0,.string ⟨#[]⟩] 92 (0,0)):=by rw [← hW1];exact heap_alloc_new W _
  obtain ⟨e1,e2⟩:=h.keep (w':=W1) (fun x hx=>hb1.block x (h.lt hx))
  have P0:Hid (PullAt b o S0 W S k W1):=⟨e1,⟨hb1.os,hb1.tape,hb1.output,hb1.size,fun i hi _=>hb1.block i hi,fun i _ ho=>e2 i ho⟩,OB.same (hb1.block b (h.lt (Or.inl rfl))),fun x hx=>Or.inl (e2 x hx),x1⟩
  have H0:Hid (EvS b o S0 S k W):=h
  have HML:Hid (∀ wr,Kv (EvOwn b o) W wr→wr.cell? ⟨6,0,none⟩=some (.int .i64 m)):=fun wr hk=>(World.cell?_of_block (w:=W) (hk.block _ hmx hmo):wr.cell? ⟨6,0,none⟩=W.cell? ⟨6,0,none⟩).trans hml
  clear h e1 e2 hmo hml hmx
  go_enter Tryz.func68,Tryz.ntmps68
  go_wp2
  go_loopg [] (S.length+1) (fun gk wr=>∃ (S1:List Stp) (k1:Nat),S1.length < gk∧Hid (PullAt b o S0 W S1 k1 wr)∧Hid (remS S k=remS S1 k1))
  case atStart=>exact ⟨S,k,Nat.lt_succ_self _,P0,(by show _=_;rfl)⟩
  case round =>
    clear P0 x1 hb1
    obtain ⟨S1,k1,hgk,HP,HR⟩:=hrel
    obtain ⟨v,bm,es,clock,c,T,ha,hT,hv,hm⟩:=HP.out.st.box
    have hT1:T ≠ 166:=hT.1
    have cl0:=row_cell ha.1 ha.2.1
    have cl1:=row_cell ha.1 ha.2.2.1
    have fr0:=row_free (i:=o) ha.1
    have fr1:=row_free (i:=o+1) ha.1
    have hlt:=ha.lt
    have hres:=HP.out.res
    obtain ⟨s0,s1,s2,s3⟩:=cells4 hres
    have g0:=row_free (i:=0) hres
    have g1:=row_free (i:=1) hres
    have g2:=row_free (i:=2) hres
    have g3:=row_free (i:=3) hres
    have hbW:=H0.out.lt (x:=b) (Or.inl rfl)
    have hrl:=lt_of_block hres
    cases S1 with
    | nil =>
      have hk0:k1=0:=HP.out.st.told.2.1 rfl
      obtain ⟨p,cp,rfl⟩:∃ p cp,v=.slice p 0 cp:=by
        rcases hv with ⟨_,h⟩ | ⟨g,og,cap,cur,h,_⟩
        · exact ⟨_,_,h⟩
        · exact ⟨_,_,h⟩
      have HA:=HP.out.answer H0.out (.int .i64 0) (.bool false) (.int .i64 0) (.string ⟨#[]⟩)
      clear ha hv hm
      go_wp2
      obtain ⟨a1,a2,a3,q0,q1,q2,q3⟩:=HA
      exact bodyPost_ret (v:=.tuple #[evV ⟨0,false,0,[]⟩,.bool false]) (by simp [results,Tryz.results68,go_sem,evV,q0,q1,q2,q3]) rfl ⟨⟨0,false,0,[]⟩,false,[],k1,rfl,a1,a2,a3,Or.inr ⟨rfl,rfl,by rw [HR.out,rem_nil],rem_nil _⟩⟩
    | cons s r =>
      obtain ⟨g,og,cap,rfl,hl1,hl2,hcs,hrest,hrest1⟩:=hv.head
      obtain ⟨cur,hcur⟩:=hv.typ (g:=g) rfl
      rw [List.length_cons] at hgk
      cases s with
      | ev e =>
          have hk0:k1=0:=HP.out.st.told.1 e r rfl
          subst hk0
          have f0:=hcs 0 _ rfl
          have f1:=hcs 1 _ rfl
          have f2:=hcs 2 _ rfl
          have f3:=hcs 3 _ rfl
          have f4:=hcs 4 _ rfl
          have f5:=hcs 5 _ rfl
          rw [Nat.add_zero] at f0
          go_upto_region 3 with fail
          obtain ⟨wa,hwa⟩:∃ wa,wr.alloc (.cells #[.int .i64 e.kind,.bool e.fin,.int .i64 e.level,.string ⟨e.text.toArray⟩,.int .i64 0,.int .i64 0] 166)=wa:=⟨_,rfl⟩
          rw [hwa]
          have hB:Below wr.heap.size wr wa:=by rw [← hwa];exact (Below.refl _ wr).alloc (Nat.le_refl _) _
          have xf:wa.heap[wr.heap.size]?=some (.cells #[.int .i64 e.kind,.bool e.fin,.int .i64 e.level,.string ⟨e.text.toArray⟩,.int .i64 0,.int .i64 0] 166 (0,0)):=by rw [← hwa];exact heap_alloc_new wr _
          have h0':=row_cell (i:=0) xf rfl
          have h1':=row_cell (i:=1) xf rfl
          have h2':=row_cell (i:=2) xf rfl
          have h3':=row_cell (i:=3) xf rfl
          have h4':=row_cell (i:=4) xf rfl
          have h5':=row_cell (i:=5) xf rfl
          have Pa:=HP.out.below H0.out hB
          have hbf:¬ wr.heap.size=b∧¬ b=wr.heap.size∧¬ wr.heap.size=W.heap.size∧¬ W.heap.size=wr.heap.size∧¬ b=W.heap.size∧¬ W.heap.size=b:=by omega
          obtain ⟨n1,n2,n3,n4,n5,n6⟩:=hbf
          have hbfl:=lt_of_block xf
          clear hwa hB xf cl0 cl1 fr0 fr1 hlt hres s0 s1 s2 s3 g0 g1 g2 g3 f0 f1 f2 f3 f4 f5 ha hT hT1 hv hm hcs hrest hrest1 hl1 hl2 HP hcur hrl
          generalize wr.heap.size=bf at *
          obtain ⟨v,bm,es,clock,c,T,ha,hT,hv,hm⟩:=Pa.st.box
          obtain ⟨g,og,cap,rfl,hl1,hl2,hcs,hrest,hrest1⟩:=hv.head
          have cl0:=row_cell ha.1 ha.2.1
          have cl1:=row_cell ha.1 ha.2.2.1
          have fr0:=row_free (i:=o) ha.1
          have fr1:=row_free (i:=o+1) ha.1
          have hres:=Pa.res
          obtain ⟨s0,s1,s2,s3⟩:=cells4 hres
          have g0:=row_free (i:=0) hres
          have g1:=row_free (i:=1) hres
          have g2:=row_free (i:=2) hres
          have g3:=row_free (i:=3) hres
          by_cases hc1:cap=1
          · have hr0:r=[]:=List.eq_nil_of_length_eq_zero (by omega)
            subst hr0
            subst hc1
            have P1:Hid (PullAt b o S0 W [] 0 (wa.setCell ⟨b,o,none⟩ (.slice (some ⟨g,og,none⟩) 0 0))):=Pa.pop0 H0.out ha hT hm _ (hrest1 rfl) (fun x hx=>by injection hx with hx;exact hx.symm)
            clear ha hv hm hcs hrest hrest1 hT Pa
            go_wp2
            obtain ⟨a1,a2,a3,q0,q1,q2,q3⟩:=P1.out.answer H0.out (.int .i64 e.kind) (.bool e.fin) (.int .i64 e.level) (.string ⟨e.text.toArray⟩)
            obtain ⟨X,hX⟩:∃ X,(((((wa.setCell ⟨b,o,none⟩ (.slice (some ⟨g,og,none⟩) 0 0)).setCell ⟨W.heap.size,0,none⟩ (.int .i64 e.kind)).setCell ⟨W.heap.size,1,none⟩ (.bool e.fin)).setCell ⟨W.heap.size,2,none⟩ (.int .i64 e.level)).setCell ⟨W.heap.size,3,none⟩ (.string ⟨e.text.toArray⟩))=X:=⟨_,rfl⟩
            rw [hX] at a1 a2 a3 q0 q1 q2 q3 ⊢
            refine bodyPost_ret (v:=.tuple #[evV e,.bool true]) (by simp [results,Tryz.results68,go_sem,evV,q0,q1,q2,q3]) rfl ?_
            exact ⟨e,true,[],0,rfl,a1,a2,a3,Or.inl ⟨rfl,by rw [HR.out,rem_ev]⟩⟩
          · have P1:Hid (PullAt b o S0 W r 0 (wa.setCell ⟨b,o,none⟩ (.slice (some ⟨g,og+6,none⟩) r.length (cap - 1)))):=Pa.pop0 H0.out ha hT hm _ hrest (fun x hx=>by injection hx with hx;exact hx.symm)
            clear ha hv hm hcs hrest hrest1 hT Pa
            go_wp2
            obtain ⟨a1,a2,a3,q0,q1,q2,q3⟩:=P1.out.answer H0.out (.int .i64 e.kind) (.bool e.fin) (.int .i64 e.level) (.string ⟨e.text.toArray⟩)
            obtain ⟨X,hX⟩:∃ X,(((((wa.setCell ⟨b,o,none⟩ (.slice (some ⟨g,og+6,none⟩) r.length (cap - 1))).setCell ⟨W.heap.size,0,none⟩ (.int .i64 e.kind)).setCell ⟨W.heap.size,1,none⟩ (.bool e.fin)).setCell ⟨W.heap.size,2,none⟩ (.int .i64 e.level)).setCell ⟨W.heap.size,3,none⟩ (.string ⟨e.text.toArray⟩))=X:=⟨_,rfl⟩
            rw [hX] at a1 a2 a3 q0 q1 q2 q3 ⊢
            refine bodyPost_ret (v:=.tuple #[evV e,.bool true]) (by simp [results,Tryz.results68,go_sem,evV,q0,q1,q2,q3]) rfl ?_
            exact ⟨e,true,r,0,rfl,a1,a2,a3,Or.inl ⟨rfl,by rw [HR.out,rem_ev]⟩⟩
      | leaf t x y =>
          have hin:Stp.leaf t x y ∈ S0:=suf_mem HP.out.st.suf rfl
          obtain ⟨n0,hsp⟩:=HP.out.st.sp
          have htx:=HP.out.st.txt t x y hin
          have hsm:=HP.out.st.small t x y hin
          have hxy:=(leaf_in hsp hin).2.2
          have hk1:=HP.out.st.told.2.2 t x y r rfl
          have f0:=hcs 0 _ rfl
          have f1:=hcs 1 _ rfl
          have f2:=hcs 2 _ rfl
          have f3:=hcs 3 _ rfl
          have f4:=hcs 4 _ rfl
          have f5:=hcs 5 _ rfl
          rw [Nat.add_zero] at f0
          have hy0:¬ ((y:Int)=0):=by omega
          go_upto_region 3 with fail
          obtain ⟨wa,hwa⟩:∃ wa,wr.alloc (.cells #[.int .i64 8,.bool false,.int .i64 0,.string ⟨t.toArray⟩,.int .i64 x,.int .i64 y] 166)=wa:=⟨_,rfl⟩
          rw [hwa]
          have hB:Below wr.heap.size wr wa:=by rw [← hwa];exact (Below.refl _ wr).alloc (Nat.le_refl _) _
          have xf:wa.heap[wr.heap.size]?=some (.cells #[.int .i64 8,.bool false,.int .i64 0,.string ⟨t.toArray⟩,.int .i64 x,.int .i64 y] 166 (0,0)):=by rw [← hwa];exact heap_alloc_new wr _
          have h0':=row_cell (i:=0) xf rfl
          have h1':=row_cell (i:=1) xf rfl
          have h2':=row_cell (i:=2) xf rfl
          have h3':=row_cell (i:=3) xf rfl
          have h4':=row_cell (i:=4) xf rfl
          have h5':=row_cell (i:=5) xf rfl
          have Pa:=HP.out.below H0.out hB
          have hbf:¬ wr.heap.size=b∧¬ b=wr.heap.size∧¬ wr.heap.size=W.heap.size∧¬ W.heap.size=wr.heap.size∧¬ b=W.heap.size∧¬ W.heap.size=b:=by omega
          obtain ⟨n1,n2,n3,n4,n5,n6⟩:=hbf
          clear hwa hB xf cl0 cl1 fr0 fr1 hlt hres s0 s1 s2 s3 g0 g1 g2 g3 f0 f1 f2 f3 f4 f5 ha hT hT1 hv hm hcs hrest hrest1 hl1 hl2 HP hcur hrl
          generalize wr.heap.size=bf at *
          obtain ⟨v,bm,es,clock,c,T,ha,hT,hv,hm⟩:=Pa.st.box
          have c1:=stand_any b o bm c T S0 n0 t x y es clock m wa hsp hin htx ha.1 ha.2.2.2.1 ha.2.2.2.2 hm (HML.out wa Pa.kv)
          obtain ⟨g,og,cap,hve,hl1,hl2,hcs,hrest,hrest1⟩:=hv.head
          by_cases hkk:k1 < (inX t).length
          · have c2:Calls Tryz.prog 86 #[.pointer (some ⟨b,o,none⟩),.agg #[.int .i64 8,.bool false,.int .i64 0,.string ⟨t.toArray⟩,.int .i64 x,.int .i64 y]] wa fun e w' =>
                ∃ gr cp,e=.returned (.slice (some ⟨gr,0,none⟩) (inX t).length cp)∧w'.cell? ⟨b,o+1,none⟩=some (.int .i64 k1)∧w'.frozen? ⟨b,o+1,none⟩=false∧(w'.cell? ⟨gr,k1 * 4,none⟩=some (.int .i64 (inX t)[k1].kind)∧w'.cell? ⟨gr,k1 * 4+1,none⟩=some (.bool (inX t)[k1].fin)∧w'.cell? ⟨gr,k1 * 4+2,none⟩=some (.int .i64 (inX t)[k1].level)∧w'.cell? ⟨gr,k1 * 4+3,none⟩=some (.string ⟨(inX t)[k1].text.toArray⟩))∧w'.heap[W.heap.size]?=some (.cells #[.int .i64 0,.bool false,.int .i64 0,.string ⟨#[]⟩] 92 (0,0))∧¬ gr=b∧(inX t).length≤cp∧Hid (PullAt b o S0 W (.leaf t x y :: r) k1 w'):=by
              refine c1.mono ?_
              rintro e w' ⟨p,ln,cp,es',clock',rfl,a1,a2,a3,a4,a5,a6,a7,a8,a9,a10,a11⟩
              obtain ⟨q1,q2,q3⟩:=PullAt.stood H0.out Pa ha hT hv a2 a3 a5 a7 a8 a9 a10 a11
              obtain ⟨q4,q5⟩:=a1.forms
              subst q4
              rcases q5 with q5 | ⟨gr,rfl,q6,⟨cur,q7⟩,q8⟩
              · rw [q5] at hkk
                cases hkk
              · refine ⟨gr,cp,rfl,row_cell q2.1 q2.2.2.1,row_free q2.1,q8 k1 _ (List.getElem?_eq_getElem hkk),q1.res,fun e=>?_,q6,q1⟩
                rw [e,q2.1] at q7
                injection q7 with q7
                injection q7 with _ q7 _
                exact hT.2 q7
            have HTell:Hid (∀ w',PullAt b o S0 W (.leaf t x y :: r) k1 w'→PullAt b o S0 W (.leaf t x y :: r) (k1+1) (w'.setCell ⟨b,o+1,none⟩ (.int .i64 ((k1:Int)+1)))):=fun w' hp=>by
              have:=PullAt.tell H0.out hp hkk
              rw [show (((k1+1:Nat):Int))=(k1:Int)+1 by omega] at this
              exact this
            have hd:decide ((k1:Int) < ((inX t).length:Int))=true:=by simp;omega
            have hd2:decide (k1 < (inX t).length)=true:=by simp;omega
            have HRem:Hid (remS S k=(inX t)[k1] :: remS (.leaf t x y :: r) (k1+1)):=Eq.trans HR.out (rem_at t x y r k1 hkk)
            generalize (inX t)[k1]=ev at c2 HRem
            clear ha hv hm c1 Pa hT hcs hrest hrest1 hve
            generalize (inX t).length=tl at *
            go_wp2_with (go_at_call 86;refine c2.mono ?_;rintro e w2 ⟨gr,cp,rfl,hc1,hf1,⟨d0,d1,d2,d3⟩,hres,hgb,hcp,HF⟩;have g0:=row_free (i:=0) hres;have g1:=row_free (i:=1) hres;have g2:=row_free (i:=2) hres;have g3:=row_free (i:=3) hres;obtain ⟨s0,s1,s2,s3⟩:=cells4 hres;have hgl:=cell_lt3 d0;have hWl:=lt_of_block hres)
            obtain ⟨a1,a2,a3,q0,q1,q2,q3⟩:=(HTell.out w2 HF.out).answer H0.out (.int .i64 ev.kind) (.bool ev.fin) (.int .i64 ev.level) (.string ⟨ev.text.toArray⟩)
            obtain ⟨X,hX⟩:∃ X,(((((w2.setCell ⟨b,o+1,none⟩ (.int .i64 ((k1:Int)+1))).setCell ⟨W.heap.size,0,none⟩ (.int .i64 ev.kind)).setCell ⟨W.heap.size,1,none⟩ (.bool ev.fin)).setCell ⟨W.heap.size,2,none⟩ (.int .i64 ev.level)).setCell ⟨W.heap.size,3,none⟩ (.string ⟨ev.text.toArray⟩))=X:=⟨_,rfl⟩
            rw [hX] at a1 a2 a3 q0 q1 q2 q3 ⊢
            refine bodyPost_ret (v:=.tuple #[evV ev,.bool true]) (by simp [results,Tryz.results68,go_sem,evV,q0,q1,q2,q3]) rfl ?_
            exact ⟨ev,true,.leaf t x y :: r,k1+1,rfl,a1,a2,a3,Or.inl ⟨rfl,HRem.out⟩⟩
          · have hke:k1=(inX t).length:=by omega
            have c2:Calls Tryz.prog 86 #[.pointer (some ⟨b,o,none⟩),.agg #[.int .i64 8,.bool false,.int .i64 0,.string ⟨t.toArray⟩,.int .i64 x,.int .i64 y]] wa fun e w' =>
                ∃ p cp,e=.returned (.slice p (inX t).length cp)∧w'.cell? ⟨b,o,none⟩=some (.slice (some ⟨g,og,none⟩) (r.length+1) cap)∧w'.cell? ⟨b,o+1,none⟩=some (.int .i64 k1)∧w'.frozen? ⟨b,o,none⟩=false∧w'.frozen? ⟨b,o+1,none⟩=false∧Hid (∃ es' clock',PullAt b o S0 W (.leaf t x y :: r) k1 w'∧EvAt b o k1 (.slice (some ⟨g,og,none⟩) (r.length+1) cap) bm es' clock' c T w'∧StpV (.slice (some ⟨g,og,none⟩) (r.length+1) cap) (.leaf t x y :: r) w'∧MapOk es' S0 w'):=by
              subst hve
              refine c1.mono ?_
              rintro e w' ⟨p,ln,cp,es',clock',rfl,a1,a2,a3,a4,a5,a6,a7,a8,a9,a10,a11⟩
              obtain ⟨q1,q2,q3⟩:=PullAt.stood H0.out Pa ha hT hv a2 a3 a5 a7 a8 a9 a10 a11
              obtain ⟨q4,q5⟩:=a1.forms
              subst q4
              exact ⟨p,cp,rfl,row_cell q2.1 q2.2.1,row_cell q2.1 q2.2.2.1,row_free q2.1,row_free q2.1,es',clock',q1,q2,q3,a3⟩
            have HT:Hid (T ≠ 166∧T ≠ 92):=hT
            have HRem:Hid (remS S k=remS r 0):=Eq.trans HR.out (rem_end t x y r k1 hke)
            have hd:decide ((k1:Int) < ((inX t).length:Int))=false:=by simp;omega
            have hd2:decide (k1 < (inX t).length)=false:=by simp;omega
            clear ha hv hm c1 Pa hT hcs hrest hrest1 hve
            generalize (inX t).length=tl at *
            by_cases hc1:cap=1
            · have hr0:r=[]:=List.eq_nil_of_length_eq_zero (by omega)
              subst hr0
              subst hc1
              go_wp2_with (go_at_call 86;refine c2.mono ?_;rintro e w2 ⟨p,cp,rfl,hc0,hc1,hf0,hf1,HF⟩)
              go_roundg 1
              case measure=>simp at hgk;omega
              case rel =>
                obtain ⟨es',clock',z1,z2,z3,z4⟩:=HF.out
                obtain ⟨g',og',cap',y1,_,_,_,y2,y3⟩:=z3.head
                injection y1 with y1 _ y4
                injection y1 with y1
                injection y1 with y1 y5
                subst y1
                subst y5
                subst y4
                exact ⟨[],0,Nat.zero_lt_one,z1.pop H0.out z2 HT.out z4 _ (y3 rfl) (fun x hx=>by injection hx with hx;exact hx.symm),HRem⟩
            · go_wp2_with (go_at_call 86;refine c2.mono ?_;rintro e w2 ⟨p,cp,rfl,hc0,hc1,hf0,hf1,HF⟩)
              go_roundg (r.length+1)
              case measure=>omega
              case rel =>
                obtain ⟨es',clock',z1,z2,z3,z4⟩:=HF.out
                obtain ⟨g',og',cap',y1,_,_,_,y2,y3⟩:=z3.head
                injection y1 with y1 _ y4
                injection y1 with y1
                injection y1 with y1 y5
                subst y1
                subst y5
                subst y4
                exact ⟨r,0,Nat.lt_succ_self _,z1.pop H0.out z2 HT.out z4 _ y2 (fun x hx=>by injection hx with hx;exact hx.symm),HRem⟩
end Go.Proofs.YtljcljipppjnoaaGreatDoor
