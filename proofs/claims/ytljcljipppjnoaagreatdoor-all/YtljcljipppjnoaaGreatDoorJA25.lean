import Derived.Test.YtljcljipppjnoaaGreatDoorJA09
import Derived.Test.YtljcljipppjnoaaGreatDoorJA18
import Derived.Test.YtljcljipppjnoaaGreatDoorJA22
namespace Go.Proofs.YtljcljipppjnoaaGreatDoor
open Go.RowKit Go.Shelf
theorem reg_len (s:ByteArray):(reg s).length≤4 * s.size:=by
  have h:∀ f p,(regFrom s f p).length≤4 * f:=by
    intro f
    induction f with
    | zero=>intro p;simp [regFrom]
    | succ f ih =>
      intro p
      rw [regFrom]
      split
      · have h1:=regAt_len s p
        have h2:=ih (p+(Utf8.decode s p).2)
        rw [List.length_append]
        omega
      · simp
  exact h s.size 0
def ListsC (k:Nat) (X:List UInt8→List Ev) (g:Nat) (m:Int):Prop :=
  ∀ (b0:Nat) (t:List UInt8) (W:World),Told b0 [] W→t.length≤16777216→g < b0→W.cell? ⟨g,0,none⟩=some (.int .i64 m) →
    Calls Tryz.prog k #[.string ⟨t.toArray⟩,.func (.func 82) #[] #[.pointer (some ⟨b0,0,none⟩)]] W fun e w'=>e=.returned (.tuple #[])∧Told b0 (X t) w'∧Kp b0 none W.heap.size W w'
set_option maxRecDepth 100000 in
set_option maxHeartbeats 1000000 in
theorem listed_any (k:Nat) (ek:∀ args w,(callFunc k args).run Tryz.prog w=.ok (.enter k args) w) (X:List UInt8→List Ev) (g:Nat) (m:Int) (hC:ListsC k X g m) (s:ByteArray) (W:World) (hs:s.size≤1048576) (hm:W.cell? ⟨g,0,none⟩=some (.int .i64 m)) :
    Calls Tryz.prog 58 #[.string s,.func (.func k) #[] #[]] W fun e w'=>∃ v,e=.returned v∧w'.ownsRow W.heap.size 92 4 v (X (reg s)).length (evCs (X (reg s)))∧Below W.heap.size W w':=by
  have hmf:∀ (fn:Fn) (first cap:Array Value) (w:World),(Instr.makeFunc fn first cap).run Tryz.prog w=.ok (.func fn first cap) w:=fun _ _ _ _=>rfl
  have hml:g < W.heap.size:=by
    rcases Nat.lt_or_ge g W.heap.size with h | h
    · exact h
    · simp [World.cell?,Array.getElem?_eq_none h] at hm
  obtain ⟨W1,hW1⟩:∃ W1,W.alloc (.cells #[.slice none 0 0] 75)=W1:=⟨_,rfl⟩
  have hx1:W1.heap[W.heap.size]?=some (.cells #[.slice none 0 0] 75 (0,0)):=by rw [← hW1];exact heap_alloc_new W _
  have hT1:Told W.heap.size [] W1:=⟨_,hx1,by simpa [evCs] using World.ownsRow_nil W1 (W.heap.size+1) 92 4⟩
  have hb1:Below W.heap.size W W1:=by rw [← hW1];exact (Below.refl _ W).alloc (Nat.le_refl _) _
  have hz1:W1.heap.size=W.heap.size+1:=by rw [← hW1];simp
  have ct:=text_any s (W.alloc (.cells #[.slice none 0 0] 75)) (by omega)
  have hrl:=reg_len s
  have hc:∀ w2,Below (W.alloc (.cells #[.slice none 0 0] 75)).heap.size (W.alloc (.cells #[.slice none 0 0] 75)) w2→Calls Tryz.prog k #[.string ⟨(reg s).toArray⟩,.func (.func 82) #[] #[.pointer (some ⟨W.heap.size,0,none⟩)]] w2 fun e w'=>e=.returned (.tuple #[])∧∃ v,w'.heap[W.heap.size]?=some (.cells #[v] 75 (0,0))∧w'.ownsRow W.heap.size 92 4 v (X (reg s)).length (evCs (X (reg s)))∧Below W.heap.size W w':=by
    intro w2 hb2
    rw [hW1] at hb2
    have hT2:=hT1.below hb2
    refine (hC W.heap.size (reg s) w2 hT2 (by omega) hml (((hb2.mono (by omega)).cell (p:=⟨g,0,none⟩) hml).trans ((hb1.cell (p:=⟨g,0,none⟩) hml).trans hm))).mono ?_
    rintro e w' ⟨rfl,⟨v,hv,hown⟩,K⟩
    have s2:=hb2.size
    refine ⟨rfl,v,hv,Joins.ownsRow_le hown (by omega),?_⟩
    have hbW:Below W.heap.size W w2:=hb1.trans (hb2.mono (by omega))
    have hno:∀ b,b < W.heap.size→¬ Own W.heap.size w2 b:=by
      intro b hb ho
      rcases ho with h | ⟨u,hu,hub⟩
      · omega
      · rw [hb2.block W.heap.size (by omega),hx1] at hu
        rw [← one_inj hu] at hub
        cases hub
    exact ⟨K.os.trans hbW.os,K.tape.trans hbW.tape,K.output.trans hbW.output,Nat.le_trans hbW.size K.size,fun b hb=>(K.block b (by have:=hbW.size;omega) (by simp) (hno b hb)).trans (hbW.block b hb)⟩
  generalize X (reg s)=bs at hc ⊢
  generalize (reg s).toArray=rg at ct hc
  clear hT1 hx1 hb1 hz1 hW1 hrl hC
  go_enter Tryz.func58,Tryz.ntmps58
  go_wp2_with (first | (go_at_call 81;refine ct.mono ?_;rintro e w2 ⟨rfl,b2⟩) | (go_at_fn k;refine (hc w2 b2).mono ?_;rintro e w3 ⟨rfl,v,hv,hown,hb⟩;have c3:=cell_of_one hv))
  go_ret
  exact ⟨v,rfl,hown,hb⟩
end Go.Proofs.YtljcljipppjnoaaGreatDoor
namespace Go.Proofs.YtljcljipppjnoaaGreatDoor
open Go.RowKit Go.Shelf
def textS (p:List UInt8):List Ev:=if p=[] then [] else [⟨8,false,0,p⟩]
def lastOk (o:List Ev):Prop:=∀ e,o.getLast?=some e→e.kind ≠ 8
theorem last_nil:lastOk []:=fun e h=>by cases h
theorem last_snoc (o:List Ev) (e:Ev) (h:e.kind ≠ 8):lastOk (o++[e]):=fun x hx=>by
  simp at hx
  subst hx
  exact h
theorem text_add (o:List Ev) (p t:List UInt8) (h:lastOk o) (ht:t ≠ []):addS (o++textS p) t=o++textS (p++t):=by
  by_cases hp:p=[]
  · subst hp
    rw [add_behind o (textS []) t (Or.inr h)]
    simp [textS,ht,add_nil]
  · rw [add_behind o (textS p) t (Or.inl (by simp [textS,hp]))]
    simp [textS,hp]
    exact (add_last [] ⟨8,false,0,p⟩ t).trans (by simp)
structure Tl where
  kd:Nat
  b0:Nat
  bT:Nat
  bE:Nat
  bD:Nat
structure Kl (q:Tl) (W w':World):Prop where
  os:w'.os=W.os
  tape:w'.tape=W.tape
  output:w'.output=W.output
  size:W.heap.size≤w'.heap.size
  block:∀ b,b < W.heap.size→(b < q.bT∨(b ≠ q.bT∧¬ Row8 W b))→¬ Own q.b0 W b→w'.heap[b]?=W.heap[b]?
  own:∀ b,b < W.heap.size→Own q.b0 w' b→Own q.b0 W b
theorem Kl.refl (q:Tl) (W:World):Kl q W W:=⟨rfl,rfl,rfl,Nat.le_refl _,fun _ _ _ _=>rfl,fun _ _ h=>h⟩
theorem Kl.trans {q:Tl} {a b c:World} (h:Kl q a b) (k:Kl q b c):Kl q a c :=
  ⟨k.os.trans h.os,k.tape.trans h.tape,k.output.trans h.output,Nat.le_trans h.size k.size,
    fun i hi hc ho=>by
      have e:=h.block i hi hc ho
      have hc':i < q.bT∨(i ≠ q.bT∧¬ Row8 b i):=hc.imp id fun x=>⟨x.1,fun ⟨c,fz,hh⟩=>x.2 ⟨c,fz,by rw [← e];exact hh⟩⟩
      exact (k.block i (Nat.lt_of_lt_of_le hi h.size) hc' (fun ho'=>ho (h.own i hi ho'))).trans e,
    fun i hi ho=>h.own i hi (k.own i (Nat.lt_of_lt_of_le hi h.size) ho)⟩
theorem Kl.of_kp {q:Tl} {W w':World} (h:Kp q.b0 none W.heap.size W w'):Kl q W w' :=
  ⟨h.os,h.tape,h.output,h.size,fun b hb _ ho=>h.block b hb (by simp) ho,fun b hb ho=>h.own b hb ho⟩
theorem Kl.below {q:Tl} {W w':World} (h:Below W.heap.size W w') (h0:q.b0 < W.heap.size):Kl q W w':=Kl.of_kp (Kp.below h h0)
theorem Kl.bld {q:Tl} {W w':World} (hB:Below q.bT W w') (hO:Lib.OthersKept 5 (some q.bT) W w') (h0:q.b0 < q.bT):Kl q W w' :=
  ⟨hB.os,hB.tape,hB.output,hB.size,
    fun b hb hc _=>by
      rcases hc with hc | ⟨h1,h2⟩
      · exact hB.block b hc
      · have e:W.heap[b]?=some W.heap[b]:=Array.getElem?_eq_getElem hb
        rw [e]
        exact hO b _ e (by simpa using h1) (fun c fz h=>h2 ⟨c,fz,by rw [e,h]⟩),
    fun b _ ho=>(Own.same (hB.block q.b0 h0) b).1 ho⟩
theorem HasL.kp {B b b0:Nat} {p:List UInt8} {acc:List Ev} {W w':World} (h:HasL B b p W) (hT:Told b0 acc W) (hK:Kp b0 none W.heap.size W w'):HasL B b p w':=by
  obtain ⟨_,x,v,hb,_⟩:=h.at
  refine h.keep (hK.block b h.lt (by simp) (hT.off hb (by decide) (by decide))) fun g hg=>?_
  obtain ⟨c,fz,hg⟩:=hg
  exact hK.block g (Array.getElem?_eq_some_iff.1 hg).1 (by simp) (hT.off hg (by decide) (by decide))
theorem Told.bld {b0 bT B:Nat} {p:List UInt8} {acc:List Ev} {W w':World} (h:Told b0 acc W) (hH:HasL B bT p W) (hO:Lib.OthersKept 5 (some bT) W w'):Told b0 acc w' :=
  h.keep fun b ho=>by
    obtain ⟨c,T,fz,hh,hT⟩:=h.own_type ho
    rw [hh]
    exact oth_cell hH hO hh (by rcases hT with rfl | rfl <;> decide) (by rcases hT with rfl | rfl <;> decide)
structure Tell (q:Tl) (acc:List Ev) (W:World):Prop where
  st:∃ p o,acc=o++textS p∧lastOk o∧Told q.b0 o W∧HasL q.bT q.bT p W
  lt:q.b0 < q.bT
  e:W.heap[q.bE]?=some (.cells #[.func (.func 140) #[] #[.pointer (some ⟨q.bT,0,none⟩),.pointer (some ⟨q.bD,0,none⟩)]] 1 (0,0))
  d:W.heap[q.bD]?=some (.cells #[doV q.kd q.b0] 116 (0,0))
  dc:DoC q.kd
theorem Tell.b0lt {q:Tl} {acc:List Ev} {W:World} (h:Tell q acc W):q.b0 < W.heap.size:=by
  obtain ⟨p,o,_,_,hT,_⟩:=h.st
  exact hT.lt
theorem Tell.below {q:Tl} {acc:List Ev} {W w':World} (h:Tell q acc W) (hb:Below W.heap.size W w'):Tell q acc w':=by
  obtain ⟨p,o,h1,h2,h3,h4⟩:=h.st
  exact ⟨⟨p,o,h1,h2,h3.below hb,h4.below hb⟩,h.lt,(hb.block _ (lt_of_block h.e)).trans h.e,(hb.block _ (lt_of_block h.d)).trans h.d,h.dc⟩
theorem Tell.kept {q:Tl} {acc:List Ev} {W w':World} (h:Tell q acc W) (hK:Kl q W w') {b:Nat} {c:Array Value} {T:TypeId} {fz:Nat × Nat} (hb:W.heap[b]?=some (.cells c T fz)) (h1:T ≠ 5) (h2:T ≠ 191) (h4:¬ Own q.b0 W b):w'.heap[b]?=some (.cells c T fz):=by
  obtain ⟨p,o,_,_,hT,hH⟩:=h.st
  obtain ⟨_,x,v,hbT,_⟩:=hH.at
  rw [hK.block b (Array.getElem?_eq_some_iff.1 hb).1 (Or.inr ⟨fun h=>?_,fun ⟨c',fz',h⟩=>?_⟩) h4]
  · exact hb
  · subst h
    rw [hb] at hbT
    injection hbT with hbT
    injection hbT with _ hbT _
    exact h2 hbT
  · rw [hb] at h
    injection h with h
    injection h with _ h _
    exact h1 h
theorem Tell.off {q:Tl} {acc:List Ev} {W:World} (h:Tell q acc W) {b:Nat} {c:Array Value} {T:TypeId} {fz:Nat × Nat} (hb:W.heap[b]?=some (.cells c T fz)) (h1:T ≠ 75) (h2:T ≠ 92):¬ Own q.b0 W b:=by
  obtain ⟨p,o,_,_,hT,_⟩:=h.st
  exact hT.off hb h1 h2
theorem Tell.new {q:Tl} {acc:List Ev} {W w':World} (h:Tell q acc W) (hb:Below W.heap.size W w') {b:Nat} (hl:W.heap.size≤b):¬ Own q.b0 w' b:=by
  obtain ⟨p,o,_,_,hT,_⟩:=h.st
  exact own_new hT (hb.block q.b0 hT.lt) hl
end Go.Proofs.YtljcljipppjnoaaGreatDoor
namespace Go.Proofs.YtljcljipppjnoaaGreatDoor
open Go.RowKit Go.Shelf
set_option maxRecDepth 100000 in
set_option maxHeartbeats 2000000 in
theorem reset_any (B b:Nat) (p:List UInt8) (W:World) (h:HasL B b p W) :
    Calls Tryz.prog 141 #[.pointer (some ⟨b,0,none⟩)] W fun e w'=>e=.returned (.tuple #[])∧HasL B b [] w'∧Below b W w'∧Lib.OthersKept 5 (some b) W w':=by
  obtain ⟨hB,x,v,hb,_⟩:=h.at
  clear h
  have c0:=cell_of_row W b 0 _ _ _ hb
  have c1:=cell_of_row W b 1 _ _ _ hb
  have f0:W.frozen? ⟨b,0,none⟩=false:=by simp [World.frozen?,hb]
  have hs1:(W.setCell ⟨b,0,none⟩ (.pointer none)).heap[b]?=some (.cells #[.pointer none,v] 191 (0,0)):=set_row hb
  have f1:(W.setCell ⟨b,0,none⟩ (.pointer none)).frozen? ⟨b,1,none⟩=false:=by simp [World.frozen?,hs1]
  have hs2:((W.setCell ⟨b,0,none⟩ (.pointer none)).setCell ⟨b,1,none⟩ (.slice none 0 0)).heap[b]?=some (.cells #[.pointer none,.slice none 0 0] 191 (0,0)):=set_row hs1
  have HF:Hid (HasL B b [] ((W.setCell ⟨b,0,none⟩ (.pointer none)).setCell ⟨b,1,none⟩ (.slice none 0 0))):=Or.inl ⟨hB,_,hs2,⟨rfl,Or.inl ⟨rfl,rfl⟩⟩,by intro h;cases h⟩
  simp at c0 c1
  clear hs1 hs2 hb
  go_enter Tryz.func141,Tryz.ntmps141
  go_wp2
  go_end0
  exact ⟨rfl,HF.out,((Below.refl b W).setCell (p:=⟨b,0,none⟩) (Nat.le_refl _) _).setCell (p:=⟨b,1,none⟩) (Nat.le_refl _) _,((Lib.OthersKept.refl _ _ W).setCell ⟨b,0,none⟩ rfl _).setCell ⟨b,1,none⟩ rfl _⟩
set_option maxRecDepth 100000 in
set_option maxHeartbeats 2000000 in
theorem end_any (q:Tl) (hD:DoC q.kd) (p:List UInt8) (o:List Ev) (W:World) (hT:Told q.b0 o W) (hH:HasL q.bT q.bT p W) (h0:q.b0 < q.bT) (hd:W.heap[q.bD]?=some (.cells #[doV q.kd q.b0] 116 (0,0))) (hlen:o.length≤1099511627776) :
    Calls Tryz.prog 140 #[.pointer (some ⟨q.bT,0,none⟩),.pointer (some ⟨q.bD,0,none⟩)] W fun e w'=>e=.returned (.tuple #[])∧Told q.b0 (o++textS p) w'∧HasL q.bT q.bT [] w'∧Kl q W w':=by
  have hlT:=hH.lt
  have c1:=hasL_get q.bT q.bT p W.drew hH (by show q.bT≤W.heap.size;omega)
  have c0:=cell_of_one hd
  have H2:Hid (∀ w1,HasL q.bT q.bT p w1→Below q.bT W.drew w1→Lib.OthersKept 5 (some q.bT) W.drew w1→w1.cell? ⟨q.bD,0,none⟩=some (doV q.kd q.b0)∧Calls Tryz.prog 62 #[.string ⟨p.toArray⟩,.func (.func q.kd) #[] #[.pointer (some ⟨q.b0,0,none⟩)]] w1 fun e w'=>e=.returned (.tuple #[])∧Told q.b0 (o++textS p) w'∧HasL q.bT q.bT p w'∧Kl q W w'):=by
    intro w1 h1 b1 o1
    have hT1:=hT.bld hH o1
    refine ⟨cell_of_one (oth_cell hH o1 hd (by decide) (by decide)),(etext_any q.kd hD q.b0 o p w1 hT1 hlen).mono ?_⟩
    rintro e w2 ⟨rfl,T2,K2⟩
    exact ⟨rfl,T2,h1.kp hT1 K2,(Kl.bld ((Below.refl _ W).drew.trans b1) ((Lib.OthersKept.refl _ _ W).drew.trans o1) h0).trans (Kl.of_kp K2)⟩
  have H3:Hid (∀ w2,Told q.b0 (o++textS p) w2→HasL q.bT q.bT p w2→Kl q W w2→Calls Tryz.prog 141 #[.pointer (some ⟨q.bT,0,none⟩)] w2 fun e w'=>e=.returned (.tuple #[])∧Told q.b0 (o++textS p) w'∧HasL q.bT q.bT [] w'∧Kl q W w'):=by
    intro w2 T2 h2 K2
    refine (reset_any q.bT q.bT p w2 h2).mono ?_
    rintro e w3 ⟨rfl,h3,b3,o3⟩
    exact ⟨rfl,T2.bld h2 o3,h3,K2.trans (Kl.bld b3 o3 h0)⟩
  generalize o++textS p=A at H2 H3 ⊢
  clear hT hH hd hD
  unfold doV at H2 c0
  go_enter Tryz.func140,Tryz.ntmps140
  go_wp2_with fail
  go_region_with (first
    | (go_at_call 106;refine c1.mono ?_;rintro e w1 ⟨rfl,h1,b1,o1⟩;obtain ⟨cd,c2⟩:=H2.out w1 h1 b1 o1)
    | (go_at_call 62;refine c2.mono ?_;rintro e w2 ⟨rfl,T2,h2,K2⟩))
  all_goals
    go_wp2_with (go_at_call 141;refine (H3.out w2 T2 h2 K2).mono ?_;rintro e w3 ⟨rfl,T3,h3,K3⟩)
    go_end0
    exact ⟨rfl,T3,h3,K3⟩
def tellV (q:Tl):Value:=.func (.func 142) #[] #[.pointer (some ⟨q.bT,0,none⟩),.pointer (some ⟨q.bE,0,none⟩),.pointer (some ⟨q.bD,0,none⟩)]
set_option maxRecDepth 100000 in
set_option maxHeartbeats 2000000 in
theorem tell_text (q:Tl) (acc:List Ev) (t:List UInt8) (W:World) (hT:Tell q acc W) (ht:t ≠ []) (hl:t.length≤1099511627776) (hx:∀ e ∈ acc,e.text.length≤1099511627776) :
    Calls Tryz.prog 142 #[.agg #[.int .i64 8,.bool false,.int .i64 0,.string ⟨t.toArray⟩],.pointer (some ⟨q.bT,0,none⟩),.pointer (some ⟨q.bE,0,none⟩),.pointer (some ⟨q.bD,0,none⟩)] W fun e w'=>e=.returned (.tuple #[])∧Tell q (addS acc t) w'∧Kl q W w':=by
  have hb0:=hT.b0lt
  obtain ⟨p,o,rfl,hlo,hTo,hH⟩:=hT.st
  have h0:=hT.lt
  have hp:p.length≤1099511627776:=by
    by_cases h:p=[]
    · subst h;simp
    · exact hx ⟨8,false,0,p⟩ (by simp [textS,h])
  obtain ⟨W1,hW1⟩:∃ W1,W.alloc (.cells #[.int .i64 8,.bool false,.int .i64 0,.string ⟨t.toArray⟩] 92)=W1:=⟨_,rfl⟩
  have hb1:Below W.heap.size W W1:=by rw [← hW1];exact (Below.refl _ W).alloc (Nat.le_refl _) _
  have hT1:=hT.below hb1
  have hH1:=hH.below hb1
  have hlT:=hH1.lt
  have c1:=hasL_write q.bT q.bT p t W1 hH1 (by omega) (by omega)
  rw [← hW1] at c1
  have HF:Hid (∀ w2,HasL q.bT q.bT (p++t) w2→Below q.bT W1 w2→Lib.OthersKept 5 (some q.bT) W1 w2→Tell q (addS (o++textS p) t) w2∧Kl q W w2):=by
    intro w2 h2 b2 o2
    refine ⟨⟨⟨p++t,o,text_add o p t hlo ht,hlo,(hTo.below hb1).bld hH1 o2,h2⟩,h0,oth_cell hH1 o2 hT1.e (by decide) (by decide),oth_cell hH1 o2 hT1.d (by decide) (by decide),hT.dc⟩,(Kl.below hb1 hb0).trans (Kl.bld b2 o2 h0)⟩
  rw [← hW1] at HF
  generalize addS (o++textS p) t=A at HF ⊢
  clear hT hTo hH hT1 hH1 hb1 hx hlo hp hW1
  go_enter Tryz.func142,Tryz.ntmps142
  go_wp2_with (go_at_call 121;refine c1.mono ?_;rintro e w2 ⟨rfl,h2,b2,o2⟩;obtain ⟨TF,KF⟩:=HF.out w2 h2 b2 o2)
  refine bodyPost_ret (results_none rfl _ _ _) rfl ?_
  exact ⟨rfl,TF,KF⟩
set_option maxRecDepth 100000 in
set_option maxHeartbeats 2000000 in
theorem tell_else (q:Tl) (acc:List Ev) (ev:Ev) (W:World) (hT:Tell q acc W) (hk:ev.kind ≠ 8) (hlen:acc.length≤1099511627776) :
    Calls Tryz.prog 142 #[.agg #[.int .i64 ev.kind,.bool ev.fin,.int .i64 ev.level,.string ⟨ev.text.toArray⟩],.pointer (some ⟨q.bT,0,none⟩),.pointer (some ⟨q.bE,0,none⟩),.pointer (some ⟨q.bD,0,none⟩)] W fun e w'=>e=.returned (.tuple #[])∧Tell q (acc++[ev]) w'∧Kl q W w':=by
  have hb0:=hT.b0lt
  have hD:=hT.dc
  have ek:=hD.1
  obtain ⟨p,o,hacc,hlo,hTo,hH⟩:=hT.st
  have h0:=hT.lt
  have hol:o.length≤acc.length:=by rw [hacc];simp
  obtain ⟨W1,hW1⟩:∃ W1,W.alloc (.cells #[.int .i64 ev.kind,.bool ev.fin,.int .i64 ev.level,.string ⟨ev.text.toArray⟩] 92)=W1:=⟨_,rfl⟩
  have hb1:Below W.heap.size W W1:=by rw [← hW1];exact (Below.refl _ W).alloc (Nat.le_refl _) _
  have hE1:W1.heap[W.heap.size]?=some (.cells #[.int .i64 ev.kind,.bool ev.fin,.int .i64 ev.level,.string ⟨ev.text.toArray⟩] 92 (0,0)):=by
    rw [← hW1]
    exact heap_alloc_new W _
  have hO1:¬ Own q.b0 W1 W.heap.size:=hT.new hb1 (Nat.le_refl _)
  have hT1:=hT.below hb1
  have c1:=end_any q hT.dc p o W1 (hTo.below hb1) (hH.below hb1) h0 hT1.d (by omega)
  have hce:=cell_of_one hT1.e
  rw [← hW1] at c1 hce
  have H2:Hid (∀ w2,Told q.b0 (o++textS p) w2→HasL q.bT q.bT [] w2→Kl q W1 w2→(w2.cell? ⟨q.bD,0,none⟩=some (doV q.kd q.b0)∧w2.heap[W.heap.size]?=some (.cells #[.int .i64 ev.kind,.bool ev.fin,.int .i64 ev.level,.string ⟨ev.text.toArray⟩] 92 (0,0)))∧Calls Tryz.prog q.kd #[.agg #[.int .i64 ev.kind,.bool ev.fin,.int .i64 ev.level,.string ⟨ev.text.toArray⟩],.pointer (some ⟨q.b0,0,none⟩)] w2 fun e w'=>e=.returned (.tuple #[])∧Tell q (acc++[ev]) w'∧Kl q W w'):=by
    intro w2 T2 h2 K2
    have d2:=hT1.kept K2 hT1.d (by decide) (by decide) (hT1.off hT1.d (by decide) (by decide))
    have e2:=hT1.kept K2 hT1.e (by decide) (by decide) (hT1.off hT1.e (by decide) (by decide))
    refine ⟨⟨cell_of_one d2,hT1.kept K2 hE1 (by decide) (by decide) hO1⟩,?_⟩
    have hc:=hD.2 q.b0 (o++textS p) ev w2 T2 (by rw [← hacc];exact hlen)
    refine hc.mono ?_
    rintro e w3 ⟨rfl,T3,K3⟩
    have k3:Kl q w2 w3:=Kl.of_kp K3
    rw [← hacc] at T3
    refine ⟨rfl,⟨⟨[],acc++[ev],by simp [textS],last_snoc _ _ hk,T3,h2.kp T2 K3⟩,h0,?_,?_,hD⟩,((Kl.below hb1 hb0).trans K2).trans k3⟩
    · rw [K3.block _ (lt_of_block e2) (by simp) (T2.off e2 (by decide) (by decide))];exact e2
    · rw [K3.block _ (lt_of_block d2) (by simp) (T2.off d2 (by decide) (by decide))];exact d2
  rw [← hW1] at H2
  have hk2:(ev.kind == 8)=false:=by rw [beq_eq_false_iff_ne];exact hk
  generalize o++textS p=A at H2 c1
  clear hT hTo hH hT1 hb1 hlo hW1 hE1 hO1 hacc hk hD
  unfold doV at H2
  go_enter Tryz.func142,Tryz.ntmps142
  go_wp2_with (first
    | (go_at_call 140;refine c1.mono ?_;rintro e w2 ⟨rfl,T2,h2,K2⟩;obtain ⟨⟨cd,hB2⟩,c2⟩:=H2.out w2 T2 h2 K2;have k0:=cell_of_row w2 W.heap.size 0 _ _ _ hB2;have k1:=cell_of_row w2 W.heap.size 1 _ _ _ hB2;have k2:=cell_of_row w2 W.heap.size 2 _ _ _ hB2;have k3:=cell_of_row w2 W.heap.size 3 _ _ _ hB2;simp at k0 k1 k2 k3)
    | (go_at_fn q.kd;refine c2.mono ?_;rintro e w3 ⟨rfl,T3,K3⟩))
  go_end0
  exact ⟨rfl,T3,K3⟩
end Go.Proofs.YtljcljipppjnoaaGreatDoor
namespace Go.Proofs.YtljcljipppjnoaaGreatDoor
open Go.RowKit
theorem utf_inv {l:List UInt8} (h:Utf l) (hne:l ≠ []):∃ (r:Nat) (t:List UInt8),Utf8.valid (r:Int)=true∧l=Lib.encodeRune (r:Int)++t∧Utf t:=by
  cases h with
  | nil=>exact absurd rfl hne
  | cons r t hv ht=>exact ⟨r,t,hv,rfl,ht⟩
def escR (r:Nat):List UInt8 :=
  if r=38 then [38,97,109,112,59] else if r=60 then [38,108,116,59] else if r=62 then [38,103,116,59] else if r=34 then [38,113,117,111,116,59] else Lib.encodeRune (r:Int)
theorem esc_high (l:List UInt8) (h:∀ c ∈ l,128≤c.toNat):escL l=l:=by
  induction l with
  | nil=>rfl
  | cons c l ih =>
    have hc:=h c (by simp)
    have e:escC c=[c]:=by
      have n:∀ k:UInt8,k.toNat < 128→c ≠ k:=fun k hk e=>by rw [e] at hc;omega
      unfold escC
      rw [if_neg (n 38 (by decide)),if_neg (n 60 (by decide)),if_neg (n 62 (by decide)),if_neg (n 34 (by decide))]
    show escC c++escL l=c :: l
    rw [e,ih fun x hx=>h x (by simp [hx])]
    rfl
theorem esc_rune (r:Nat) (hv:Utf8.valid (r:Int)=true):escL (Lib.encodeRune (r:Int))=escR r:=by
  by_cases h:r < 128
  · have e:∀ k:Nat,k < 128→(UInt8.ofNat r=UInt8.ofNat k ↔ r=k):=fun k hk=>by
      constructor
      · intro he
        have:=congrArg UInt8.toNat he
        rw [UInt8.toNat_ofNat',UInt8.toNat_ofNat'] at this
        omega
      · intro he;rw [he]
    unfold escR
    rw [enc_low r h]
    show escC (UInt8.ofNat r)++[]=_
    rw [List.append_nil]
    unfold escC
    have e38:(UInt8.ofNat r=38 ↔ r=38):=e 38 (by decide)
    have e60:(UInt8.ofNat r=60 ↔ r=60):=e 60 (by decide)
    have e62:(UInt8.ofNat r=62 ↔ r=62):=e 62 (by decide)
    have e34:(UInt8.ofNat r=34 ↔ r=34):=e 34 (by decide)
    simp only [e38,e60,e62,e34]
  · rw [esc_high _ (enc_high r hv (by omega))]
    unfold escR
    rw [if_neg (by omega),if_neg (by omega),if_neg (by omega),if_neg (by omega)]
theorem escR_len (r:Nat):(escR r).length≤6:=by
  unfold escR
  have:=encodeRune_len (r:Int)
  repeat' split
  all_goals first | (simp;done) | omega
set_option maxHeartbeats 2000000 in
set_option maxRecDepth 1000000 in
theorem hesc_any (s:ByteArray) (hu:Utf s.data.toList) (w:World) (hs:s.size≤35184372088) :
    Calls Tryz.prog 116 #[.string s] w fun e w'=>e=.returned (.string ⟨(escL s.data.toList).toArray⟩)∧Below w.heap.size w w':=by
  have hsl:s.data.toList.length=s.size:=by rw [Array.length_toList];rfl
  go_enter Tryz.func116,Tryz.ntmps116
  go_wp2
  go_loopw [] (fun wr=>∃ (pos:Nat) (acc:List UInt8),Lib.IsBuilderF 191 5 w.heap.size w.heap.size (Lib.byteCells acc) wr∧wr.heap[w.heap.size+1]?=some (.stringIter s pos)∧Below w.heap.size w wr∧Hid (acc=escL (s.data.toList.take pos))∧Hid (Utf (s.data.toList.drop pos))∧pos≤s.size∧acc.length≤6 * pos) (fun wr=>s.size - wr.iterPos (w.heap.size+1))
  case atStart =>
    refine ⟨0,[],(Lib.IsBuilderF.of (Lib.fresh_isBuilder 191 5 w)).alloc _,?_,((Below.refl _ w).alloc (Nat.le_refl _) _).alloc (by simp) _,(by show _=_;rfl),hu,by omega,by simp⟩
    have:=World.iter_heap (w.alloc (.cells #[.pointer none,.slice none 0 0] 191)) s 0
    simpa using this
  case round =>
    obtain ⟨pos,acc,hI,hit,hbw,HA,HU,hle,hal⟩:=hrel
    have hsz:w.heap.size+1 < wr.heap.size:=(Array.getElem?_eq_some_iff.1 hit).1
    by_cases hp:pos < s.size
    · obtain ⟨r,t,hv,hl,ht⟩:=utf_inv HU.out (fun e=>by have:=congrArg List.length e;rw [List.length_drop] at this;simp at this;omega)
      obtain ⟨d,hd⟩:∃ d,(Lib.encodeRune (r:Int)).length=d:=⟨_,rfl⟩
      have hdec:Utf8.decode s pos=(r,d):=by rw [← Lib.decodeL_drop,hl,decode_enc r hv,hd]
      have hnx:∀ ty,(Instr.next (.pointer (some ⟨w.heap.size+1,0,none⟩)) true ty).run Tryz.prog wr=_:=fun ty=>Lib.run_next_any_at wr (w.heap.size+1) s pos ty hit hp
      have hd1:=decode_le s pos
      have hwd:=width_pos s pos hp
      rw [hdec] at hnx hd1 hwd
      simp only at hd1 hwd hnx
      have hI2:=hI.iterAt hit (pos+d)
      have hit2:=Lib.iterAt_heap wr (w.heap.size+1) s pos (pos+d) hit
      have hbw2:=Lib.below_iterAt hbw (k:=w.heap.size+1) (by omega) s (pos+d)
      have hsz2:w.heap.size≤(wr.iterAt (w.heap.size+1) s (pos+d)).heap.size:=by rw [Lib.iterAt_size];omega
      have hld:pos+d≤s.size:=by
        have:=congrArg List.length hl
        rw [List.length_drop,List.length_append,hd] at this
        omega
      have HT:Hid (escL (s.data.toList.take (pos+d))=acc++escR r∧Utf (s.data.toList.drop (pos+d))∧(escR r).length≤6):=by
        have e1:s.data.toList.take (pos+d)=s.data.toList.take pos++Lib.encodeRune (r:Int):=by
          rw [List.take_add,hl,← hd,List.take_left']
          rfl
        refine ⟨?_,?_,escR_len r⟩
        · rw [e1]
          unfold escL
          rw [List.flatMap_append]
          show escL _++escL _=_
          rw [esc_rune r hv,HA.out]
        · rw [← List.drop_drop,hl,← hd,List.drop_left']
          · exact ht
          · rfl
      have FIN:Hid (∀ W1 (x:List UInt8),Lib.IsBuilderF 191 5 w.heap.size w.heap.size (Lib.byteCells (acc++x)) W1→W1.heap[w.heap.size+1]?=some (.stringIter s (pos+d))→Below w.heap.size w W1→x=escR r→∃ (pos:Nat) (acc:List UInt8),Lib.IsBuilderF 191 5 w.heap.size w.heap.size (Lib.byteCells acc) W1∧W1.heap[w.heap.size+1]?=some (.stringIter s pos)∧Below w.heap.size w W1∧Hid (acc=escL (s.data.toList.take pos))∧Hid (Utf (s.data.toList.drop pos))∧pos≤s.size∧acc.length≤6 * pos):=by
        intro W1 x a b c e
        subst e
        refine ⟨pos+d,acc++escR r,a,b,c,HT.out.1.symm,HT.out.2.1,hld,?_⟩
        have:=HT.out.2.2
        rw [List.length_append]
        omega
      clear hl hdec HA HU ht hI hbw hd
      have cS:=fun (x:ByteArray) (hx:x.size≤6)=>bld_string w.heap.size w.heap.size _ x _ hI2 (by rw [Lib.byteCells_length];omega) hsz2
      by_cases h38:r=38
      · subst h38
        go_wp2_with (go_at_call 121;refine (cS _ (by decide)).mono ?_)
        rintro e W1 ⟨rfl,h1,b1,k1⟩
        go_wp2
        go_roundw
        case rel =>
          refine FIN.out _ [38,97,109,112,59] ?_ (k1.iter hit2 (by omega)) (hbw2.trans b1) rfl
          rw [Lib.byteCells_append];exact Or.inr h1
        case measure =>
          simp only [World.iterPos,k1.iter hit2 (by omega),hit]
          omega
      have e38:((r:Int) == 38)=false:=by simp;omega
      by_cases h60:r=60
      · subst h60
        go_wp2_with (go_at_call 121;refine (cS _ (by decide)).mono ?_)
        rintro e W1 ⟨rfl,h1,b1,k1⟩
        go_wp2
        go_roundw
        case rel =>
          refine FIN.out _ [38,108,116,59] ?_ (k1.iter hit2 (by omega)) (hbw2.trans b1) rfl
          rw [Lib.byteCells_append];exact Or.inr h1
        case measure =>
          simp only [World.iterPos,k1.iter hit2 (by omega),hit]
          omega
      have e60:((r:Int) == 60)=false:=by simp;omega
      by_cases h62:r=62
      · subst h62
        go_wp2_with (go_at_call 121;refine (cS _ (by decide)).mono ?_)
        rintro e W1 ⟨rfl,h1,b1,k1⟩
        go_wp2
        go_roundw
        case rel =>
          refine FIN.out _ [38,103,116,59] ?_ (k1.iter hit2 (by omega)) (hbw2.trans b1) rfl
          rw [Lib.byteCells_append];exact Or.inr h1
        case measure =>
          simp only [World.iterPos,k1.iter hit2 (by omega),hit]
          omega
      have e62:((r:Int) == 62)=false:=by simp;omega
      by_cases h34:r=34
      · subst h34
        go_wp2_with (go_at_call 121;refine (cS _ (by decide)).mono ?_)
        rintro e W1 ⟨rfl,h1,b1,k1⟩
        go_wp2
        go_roundw
        case rel =>
          refine FIN.out _ [38,113,117,111,116,59] ?_ (k1.iter hit2 (by omega)) (hbw2.trans b1) rfl
          rw [Lib.byteCells_append];exact Or.inr h1
        case measure =>
          simp only [World.iterPos,k1.iter hit2 (by omega),hit]
          omega
      have e34:((r:Int) == 34)=false:=by simp;omega
      have HN:Hid (Lib.encodeRune (r:Int)=escR r):=by
        show _=_
        unfold escR
        rw [if_neg h38,if_neg h60,if_neg h62,if_neg h34]
      clear h38 h60 h62 h34 cS
      go_wp2_with (go_at_call 105;refine (bld_rune w.heap.size w.heap.size _ _ (by omega) (by omega) _ hI2 (by rw [Lib.byteCells_length];omega) hsz2).mono ?_)
      rintro e W1 ⟨rfl,h1,b1,k1⟩
      go_wp2
      go_roundw
      case rel =>
        refine FIN.out _ (Lib.encodeRune (r:Int)) ?_ (k1.iter hit2 (by omega)) (hbw2.trans b1) HN.out
        rw [Lib.byteCells_append,Lib.byteCells_encodeRune];exact Or.inr h1
      case measure =>
        simp only [World.iterPos,k1.iter hit2 (by omega),hit]
        omega
    · have hnx:∀ ty,(Instr.next (.pointer (some ⟨w.heap.size+1,0,none⟩)) true ty).run Tryz.prog wr=_:=fun ty=>Lib.run_next_end_at wr (w.heap.size+1) s pos ty hit hp
      go_wp2_with (go_at_call 106;refine (bld_all w.heap.size w.heap.size acc _ hI (by omega)).mono ?_)
      rintro e W1 ⟨rfl,_,b1,_⟩
      go_wp2
      go_ret
      have:=HA.out
      rw [List.take_of_length_le (by omega)] at this
      rw [← this]
      exact ⟨rfl,hbw.trans b1⟩
end Go.Proofs.YtljcljipppjnoaaGreatDoor
