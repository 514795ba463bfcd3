import Derived.Test.YtljcljipppjnoaaGreatDoorJA15
import Derived.Test.YtljcljipppjnoaaGreatDoorJA25
import Derived.Test.YtljcljipppjnoaaGreatDoorJA27
import Derived.Test.YtljcljipppjnoaaGreatDoorJA31
import Derived.Laws.EntriesVeiled
namespace Go.Proofs.YtljcljipppjnoaaGreatDoor
open Go.RowKit Go.Shelf
theorem ba_eta (s:ByteArray):(⟨s.data.toList.toArray⟩:ByteArray)=s:=by
  apply ByteArray.ext
  simp
set_option maxRecDepth 100000 in
set_option maxHeartbeats 2000000 in
theorem ltext_any (q:Tl) (A:List Ev) (s:ByteArray) (W:World) (hT:Tell q A W) (h1:1≤s.size) (hl:s.size≤1099511627776) (hx:∀ e ∈ A,e.text.length≤1099511627776) :
    Calls Tryz.prog 62 #[.string s,.func (.func 142) #[] #[.pointer (some ⟨q.bT,0,none⟩),.pointer (some ⟨q.bE,0,none⟩),.pointer (some ⟨q.bD,0,none⟩)]] W fun e w'=>e=.returned (.tuple #[])∧Tell q (addS A s.data.toList) w'∧Kl q W w':=by
  have hz:=ba_len s
  have hne:s.data.toList ≠ []:=fun h=>by rw [h] at hz;simp at hz;omega
  have hc:=tell_text q A s.data.toList W hT hne (by omega) hx
  rw [ba_eta] at hc
  have hne2:s.toList.isEmpty=false:=by
    rw [Lib.toList_data]
    cases h:s.data.toList with
    | nil=>exact absurd h hne
    | cons a b=>rfl
  generalize addS A s.data.toList=A2 at hc ⊢
  clear hT hx hne
  go_enter Tryz.func62,Tryz.ntmps62
  go_wp2_with (go_at_call 142;refine hc.mono ?_;rintro e w1 ⟨rfl,T1,K1⟩)
  go_end0
  exact ⟨rfl,T1,K1⟩
set_option maxRecDepth 100000 in
set_option maxHeartbeats 2000000 in
theorem lwithin_any (q:Tl) (A mid:List Ev) (ev:Ev) (hk:ev.kind ≠ 8) (k:Nat) (capt:Array Value) (W:World)
    (ek:∀ args w,(callFunc k args).run Tryz.prog w=.ok (.enter k args) w)
    (hT:Tell q A W) (hlen:A.length+1+mid.length≤1099511627776)
    (hin:∀ W',Tell q (A++[ev]) W'→Kl q W W'→Calls Tryz.prog k capt W' fun e w'=>e=.returned (.tuple #[])∧Tell q (A++[ev]++mid) w'∧Kl q W' w') :
    Calls Tryz.prog 152 #[.agg #[.int .i64 ev.kind,.bool ev.fin,.int .i64 ev.level,.string ⟨ev.text.toArray⟩],.func (.func 142) #[] #[.pointer (some ⟨q.bT,0,none⟩),.pointer (some ⟨q.bE,0,none⟩),.pointer (some ⟨q.bD,0,none⟩)],.func (.func k) #[] capt] W fun e w'=>e=.returned (.tuple #[])∧Tell q (A++[ev]++mid++[evEnd ev]) w'∧Kl q W w':=by
  have hb0:=hT.b0lt
  obtain ⟨W1,hW1⟩:∃ W1,W.alloc (.cells #[.int .i64 ev.kind,.bool ev.fin,.int .i64 ev.level,.string ⟨ev.text.toArray⟩] 92)=W1:=⟨_,rfl⟩
  have hb1:Below W.heap.size W W1:=by rw [← hW1];exact (Below.refl _ W).alloc (Nat.le_refl _) _
  have hT1:=hT.below hb1
  have hE1:W1.heap[W.heap.size]?=some (.cells #[.int .i64 ev.kind,.bool ev.fin,.int .i64 ev.level,.string ⟨ev.text.toArray⟩] 92 (0,0)):=by
    rw [← hW1]
    exact heap_alloc_new W _
  have hK1:Kl q W W1:=Kl.below hb1 hb0
  have hO1:¬ Own q.b0 W1 W.heap.size:=hT.new hb1 (Nat.le_refl _)
  have hlt1:=(Array.getElem?_eq_some_iff.1 hE1).1
  have hdo1:=tell_else q A ev W1 hT1 hk (by omega)
  rw [← hW1] at hdo1
  have HD:Hid (∀ w2,Tell q (A++[ev]++mid) w2→Calls Tryz.prog 142 #[.agg #[.int .i64 ev.kind,.bool true,.int .i64 ev.level,.string ⟨#[]⟩],.pointer (some ⟨q.bT,0,none⟩),.pointer (some ⟨q.bE,0,none⟩),.pointer (some ⟨q.bD,0,none⟩)] w2 fun e w'=>e=.returned (.tuple #[])∧Tell q (A++[ev]++mid++[evEnd ev]) w'∧Kl q w2 w') :=
    fun w2 hT2=>tell_else q (A++[ev]++mid) (evEnd ev) w2 hT2 hk (by simp only [List.length_append,List.length_singleton];omega)
  have HE:Hid (∀ w1 w2,Tell q (A++[ev]) w1→Kl q W1 w1→Kl q w1 w2→w2.heap[W.heap.size]?=some (.cells #[.int .i64 ev.kind,.bool ev.fin,.int .i64 ev.level,.string ⟨ev.text.toArray⟩] 92 (0,0))):=by
    intro w1 w2 t1 k1 k2
    have e1:=hT1.kept k1 hE1 (by decide) (by decide) hO1
    exact t1.kept k2 e1 (by decide) (by decide) (fun h=>hO1 (k1.own _ hlt1 h))
  have HK:Hid (Kl q W W1):=hK1
  have Hin:Hid _:=hin
  rw [← hW1] at HE HK
  clear hin hT hT1 hE1 hK1 hO1 hb1 hW1 hlt1
  go_enter Tryz.func152,Tryz.ntmps152
  go_wp2_with (first
    | (go_at_call 142;refine (HD.out w2 T2).mono ?_;rintro e w3 ⟨rfl,T3,K3⟩)
    | (go_at_call 142;refine hdo1.mono ?_;rintro e w1 ⟨rfl,T1,K1⟩)
    | (go_at_fn k;refine (Hin.out w1 T1 (HK.out.trans K1)).mono ?_;rintro e w2 ⟨rfl,T2,K2⟩;have hB2:=HE.out w1 w2 T1 K1 K2;have c0:=cell_of_row w2 W.heap.size 0 _ _ _ hB2;have c1:=cell_of_row w2 W.heap.size 1 _ _ _ hB2;have c2:=cell_of_row w2 W.heap.size 2 _ _ _ hB2;have c3:=cell_of_row w2 W.heap.size 3 _ _ _ hB2;simp at c0 c1 c2 c3))
  go_end0
  exact ⟨rfl,T3,((HK.out.trans K1).trans K2).trans K3⟩
def ML (q:Tl) (m:Int) (W:World):Prop:=6 < q.b0∧W.cell? ⟨6,0,none⟩=some (.int .i64 m)
theorem ML.keep {q:Tl} {m:Int} {A:List Ev} {W w':World} (h:ML q m W) (hT:Tell q A W) (hK:Kl q W w'):ML q m w':=by
  refine ⟨h.1,?_⟩
  have hb0:=hT.b0lt
  have h0:=hT.lt
  have hlt:=h.1
  have hno:¬ Own q.b0 W 6:=by
    intro ho
    obtain ⟨p,o,_,_,hTo,_⟩:=hT.st
    obtain ⟨v,hv,ho2⟩:=hTo
    rcases ho with ho | ⟨u,hu,hub⟩
    · omega
    · rw [hv] at hu
      rw [← one_inj hu] at hub
      have:=(ho2.lt _ hub).1
      omega
  have:=hK.block 6 (by omega) (Or.inl (by omega)) hno
  simp only [World.cell?,this]
  exact h.2
theorem ML.below {q:Tl} {m:Int} {A:List Ev} {W w':World} (h:ML q m W) (hT:Tell q A W) (hb:Below W.heap.size W w'):ML q m w':=h.keep hT (Kl.below hb hT.b0lt)
theorem lv_replace (s:ByteArray) (m:Int) (w:World) (hs:s.size≤1073741824) (hm:w.cell? ⟨6,0,none⟩=some (.int .i64 m)) :
    Calls Tryz.prog 196 #[.string s,.string ⟨#[10]⟩,.string ⟨#[32]⟩] w fun e w'=>e=.returned (.string ⟨(spacedL s.data.toList).toArray⟩)∧Below w.heap.size w w':=by
  have h:=Any.strings_ReplaceAll Tryz.lays155 Tryz.Builder_Extra_155 s ⟨#[10]⟩ ⟨#[32]⟩ m w (by omega) hm (by decide) ?_
  · rw [show (⟨#[10]⟩:ByteArray).data.toList=[10] from rfl,show (⟨#[32]⟩:ByteArray).data.toList=[32] from rfl,replace_spaced] at h
    exact h
  · have h1:=Lib.count_le s.data.toList [10]
    rw [ba_len] at h1
    have h2:Lib.countB s ⟨#[10]⟩=Lib.count s.data.toList [10]:=rfl
    have h3:(⟨#[32]⟩:ByteArray).size=1:=rfl
    rw [h2,h3]
    omega
end Go.Proofs.YtljcljipppjnoaaGreatDoor
namespace Go.Proofs.YtljcljipppjnoaaGreatDoor
open Go.RowKit Go.Shelf
theorem glue_nil (A:List Ev):glue A []=A:=by simp [glue]
theorem glue_text' (A:List Ev) (t:List UInt8):glue A [⟨8,false,0,t⟩]=addS A t:=by simp [glue]
theorem glue_one (A:List Ev) (e:Ev) (h:e.kind ≠ 8):glue A [e]=A++[e]:=by simp [glue,h]
theorem glue_many (A m:List Ev) (h:2≤m.length):glue A m=A++m:=by
  unfold glue
  split
  · simp at h
  · rfl
set_option maxRecDepth 100000 in
set_option maxHeartbeats 2000000 in
theorem feed_any (q:Tl) (A:List Ev) (W:World) (hT:Tell q A W) (hlen:A.length≤1099511627776) :
    Calls Tryz.prog 170 #[.func (.func 142) #[] #[.pointer (some ⟨q.bT,0,none⟩),.pointer (some ⟨q.bE,0,none⟩),.pointer (some ⟨q.bD,0,none⟩)]] W fun e w'=>e=.returned (.int .i64 1)∧Tell q (A++[⟨10,false,0,[]⟩]) w'∧Kl q W w':=by
  have hc:Calls Tryz.prog 142 #[.agg #[.int .i64 10,.bool false,.int .i64 0,.string ⟨#[]⟩],.pointer (some ⟨q.bT,0,none⟩),.pointer (some ⟨q.bE,0,none⟩),.pointer (some ⟨q.bD,0,none⟩)] W fun e w'=>e=.returned (.tuple #[])∧Tell q (A++[⟨10,false,0,[]⟩]) w'∧Kl q W w':=tell_else q A ⟨10,false,0,[]⟩ W hT (by decide) hlen
  generalize A++[⟨10,false,0,[]⟩]=A2 at hc ⊢
  clear hT hlen
  go_enter Tryz.func170,Tryz.ntmps170
  go_wp2_with (go_at_call 142;refine hc.mono ?_;rintro e w1 ⟨rfl,T1,K1⟩)
  go_ret
  exact ⟨rfl,T1,K1⟩
set_option maxRecDepth 100000 in
set_option maxHeartbeats 4000000 in
theorem slash_any (q:Tl) (A:List Ev) (f:List UInt8→Bool→List Ev) (s:ByteArray) (ins:Bool) (W:World) (hT:Tell q A W) (h0:s.data.toList[0]?=some 92) (hs:s.size≤1073741824) (hlen:A.length≤1099511627776) (hx:∀ e ∈ A,e.text.length≤1099511627776) (X:List Ev × Nat) (hX:oneS f s.data.toList 0 ins=X) :
    Calls Tryz.prog 169 #[.string s,.func (.func 142) #[] #[.pointer (some ⟨q.bT,0,none⟩),.pointer (some ⟨q.bE,0,none⟩),.pointer (some ⟨q.bD,0,none⟩)]] W fun e w'=>e=.returned (.int .i64 X.2)∧Tell q (glue A X.1) w'∧Kl q W w':=by
  have hl:=ba_len s
  have hb0:=hT.b0lt
  have cH:=fun W=>lv_prefix s ⟨#[92,10]⟩ W
  rw [show (⟨#[92,10]⟩:ByteArray).data.toList=[92,10] from rfl] at cH
  have hpt:=pre_two s.data.toList 92 10
  have cE:=fun W=>esc_any s W hs
  unfold oneS at hX
  rw [if_pos h0] at hX
  by_cases h10:s.data.toList[0+1]?=some 10
  · rw [if_pos h10] at hX
    rw [hpt.2 ⟨h0,h10⟩] at cH
    subst hX
    have hc:Calls Tryz.prog 142 #[.agg #[.int .i64 11,.bool false,.int .i64 0,.string ⟨#[]⟩],.pointer (some ⟨q.bT,0,none⟩),.pointer (some ⟨q.bE,0,none⟩),.pointer (some ⟨q.bD,0,none⟩)] W fun e w'=>e=.returned (.tuple #[])∧Tell q (A++[⟨11,false,0,[]⟩]) w'∧Kl q W w':=tell_else q A ⟨11,false,0,[]⟩ W hT (by decide) hlen
    show Calls _ _ _ _ (fun e w'=>e=.returned (.int .i64 2)∧Tell q (glue A [⟨11,false,0,[]⟩]) w'∧Kl q W w')
    rw [glue_one A ⟨11,false,0,[]⟩ (by decide)]
    generalize A++[⟨11,false,0,[]⟩]=A2 at hc ⊢
    clear hT hlen hx hpt cE h0 h10
    go_enter Tryz.func169,Tryz.ntmps169
    go_wp2_with (first | (go_at_call 176;refine (cH _).mono ?_;rintro e w' ⟨rfl,hw⟩;rw [hw];clear hw) | (go_at_call 142;refine hc.mono ?_;rintro e w1 ⟨rfl,T1,K1⟩))
    go_ret
    exact ⟨rfl,T1,K1⟩
  · rw [if_neg h10] at hX
    have hnp:List.isPrefixOf [92,10] s.data.toList=false:=by
      rw [← Bool.not_eq_true]
      exact fun h=>h10 (hpt.1 h).2
    rw [hnp] at cH
    by_cases hsg:s.data.toList[0+1]?.map signS=some true
    · rw [if_pos hsg] at hX
      have hn:escN s.data.toList=2:=by rw [escN,if_pos hsg]
      rw [hn] at cE
      subst hX
      have h2:2≤s.size:=by
        cases hh:s.data.toList[0+1]? with
        | none=>rw [hh] at hsg;cases hsg
        | some c=>have:=(List.getElem?_eq_some_iff.1 hh).1;omega
      have hcut:(s.extract 1 2).data.toList=cut s.data.toList (0+1) (0+2):=by rw [ba_cut]
      have hz:(s.extract 1 2).size=1:=by rw [ByteArray.size_extract];omega
      have hc:=ltext_any q A (s.extract 1 2) W hT (by omega) (by omega) hx
      rw [hcut] at hc
      show Calls _ _ _ _ (fun e w'=>e=.returned (.int .i64 2)∧Tell q (glue A [⟨8,false,0,cut s.data.toList (0+1) (0+2)⟩]) w'∧Kl q W w')
      rw [glue_text']
      generalize addS A (cut s.data.toList (0+1) (0+2))=A2 at hc ⊢
      clear hT hlen hx hpt h0 h10 hnp hsg hn hcut hz
      go_enter Tryz.func169,Tryz.ntmps169
      go_wp2_with (first | (go_at_call 176;refine (cH _).mono ?_;rintro e w' ⟨rfl,hw⟩;rw [hw];clear hw) | (go_at_call 194;refine (cE _).mono ?_;rintro e w' ⟨rfl,hw⟩;rw [hw];clear hw) | (go_at_call 62;refine hc.mono ?_;rintro e w1 ⟨rfl,T1,K1⟩))
      go_ret
      exact ⟨rfl,T1,K1⟩
    · rw [if_neg hsg] at hX
      have hn:escN s.data.toList=0:=by rw [escN,if_neg hsg]
      rw [hn] at cE
      subst hX
      show Calls _ _ _ _ (fun e w'=>e=.returned (.int .i64 0)∧Tell q (glue A []) w'∧Kl q W w')
      rw [glue_nil]
      have HT:Hid (Tell q A W):=hT
      clear hT hlen hx hpt h0 h10 hnp hsg hn
      go_enter Tryz.func169,Tryz.ntmps169
      go_wp2_with (first | (go_at_call 176;refine (cH _).mono ?_;rintro e w' ⟨rfl,hw⟩;rw [hw];clear hw) | (go_at_call 194;refine (cE _).mono ?_;rintro e w' ⟨rfl,hw⟩;rw [hw];clear hw))
      go_ret
      exact ⟨rfl,HT.out,Kl.refl _ _⟩
set_option maxRecDepth 100000 in
set_option maxHeartbeats 4000000 in
theorem code_any (q:Tl) (m:Int) (A:List Ev) (f:List UInt8→Bool→List Ev) (s:ByteArray) (ins:Bool) (W:World) (hT:Tell q A W) (hM:ML q m W) (h0:s.data.toList[0]?=some 96) (hs:s.size≤1073741824) (hlen:A.length≤1099511627776) (X:List Ev × Nat) (hX:oneS f s.data.toList 0 ins=X) :
    Calls Tryz.prog 171 #[.string s,.func (.func 142) #[] #[.pointer (some ⟨q.bT,0,none⟩),.pointer (some ⟨q.bE,0,none⟩),.pointer (some ⟨q.bD,0,none⟩)]] W fun e w'=>e=.returned (.int .i64 X.2)∧Tell q (glue A X.1) w'∧Kl q W w':=by
  have hl:=ba_len s
  have hb0:=hT.b0lt
  have h1:1≤s.size:=by
    have:=(List.getElem?_eq_some_iff.1 h0).1
    omega
  have cC:=fun W=>cod_any s W h1 hs
  unfold oneS at hX
  rw [if_neg (by rw [h0];simp),if_neg (by rw [h0];simp),if_pos h0] at hX
  by_cases hn:nextAt s.data.toList 96 (0+1) < s.data.toList.length
  · rw [if_pos hn] at hX
    have hcd:codN s.data.toList=nextAt s.data.toList 96 (0+1)+1:=by rw [codN,if_pos hn]
    rw [hcd] at cC
    have hge:=next_ge s.data.toList 96 (0+1)
    rw [hl] at hn
    subst hX
    generalize nextAt s.data.toList 96 (0+1)=n at cC hn hge ⊢
    have hcut:(s.extract 1 n).data.toList=cut s.data.toList (0+1) n:=by rw [ba_cut]
    have hz:(s.extract 1 n).size=n - 1:=by rw [ByteArray.size_extract];omega
    have c2:=lv_replace (s.extract 1 n) m W (by omega) hM.2
    rw [hcut] at c2
    have HT:Hid (∀ w1,Below W.heap.size W w1→Calls Tryz.prog 142 #[.agg #[.int .i64 9,.bool false,.int .i64 0,.string ⟨(spacedL (cut s.data.toList (0+1) n)).toArray⟩],.pointer (some ⟨q.bT,0,none⟩),.pointer (some ⟨q.bE,0,none⟩),.pointer (some ⟨q.bD,0,none⟩)] w1 fun e w'=>e=.returned (.tuple #[])∧Tell q (A++[⟨9,false,0,spacedL (cut s.data.toList (0+1) n)⟩]) w'∧Kl q W w'):=by
      intro w1 b1
      refine (tell_else q A ⟨9,false,0,spacedL (cut s.data.toList (0+1) n)⟩ w1 (hT.below b1) (by decide:(9:Int) ≠ 8) hlen).mono ?_
      rintro e w2 ⟨rfl,T2,K2⟩
      exact ⟨rfl,T2,(Kl.below b1 hb0).trans K2⟩
    show Calls _ _ _ _ (fun e w'=>e=.returned (.int .i64 ((n+1 - 0:Nat):Int))∧Tell q (glue A [⟨9,false,0,spacedL (cut s.data.toList (0+1) n)⟩]) w'∧Kl q W w')
    rw [glue_one A _ (by decide:(9:Int) ≠ 8)]
    generalize A++[⟨9,false,0,spacedL (cut s.data.toList (0+1) n)⟩]=A2 at HT ⊢
    generalize spacedL (cut s.data.toList (0+1) n)=t at c2 HT
    clear hT hM hlen h0 hcut hz hcd hl
    go_enter Tryz.func171,Tryz.ntmps171
    go_wp2_with (first | (go_at_call 195;refine (cC _).mono ?_;rintro e w' ⟨rfl,hw⟩;rw [hw];clear hw) | (go_at_call 196;refine c2.mono ?_;rintro e w1 ⟨rfl,b1⟩) | (go_at_call 142;refine (HT.out w1 b1).mono ?_;rintro e w2 ⟨rfl,T2,K2⟩))
    go_ret
    exact ⟨congrArg (fun z:Int=>Ending.returned (Value.int IntKind.i64 z)) (by omega),T2,K2⟩
  · rw [if_neg hn] at hX
    have hcd:codN s.data.toList=0:=by rw [codN,if_neg hn]
    rw [hcd] at cC
    subst hX
    show Calls _ _ _ _ (fun e w'=>e=.returned (.int .i64 0)∧Tell q (glue A []) w'∧Kl q W w')
    rw [glue_nil]
    have HT:Hid (Tell q A W):=hT
    clear hT hM hlen h0 hcd hn
    go_enter Tryz.func171,Tryz.ntmps171
    go_wp2_with (go_at_call 195;refine (cC _).mono ?_;rintro e w' ⟨rfl,hw⟩;rw [hw];clear hw)
    go_ret
    exact ⟨rfl,HT.out,Kl.refl _ _⟩
end Go.Proofs.YtljcljipppjnoaaGreatDoor
namespace Go.Proofs.YtljcljipppjnoaaGreatDoor
open Go.RowKit Go.Shelf
def PartC (q:Tl) (m:Int) (N:Nat):Prop :=
  ∀ (s:ByteArray) (ins:Bool) (A:List Ev) (W:World),s.size < N→s.size≤1073741824→Tell q A W→ML q m W→lastOk A→A.length+2 * s.size≤1099511627776→(∀ e ∈ A,e.text.length+s.size≤1099511627776) →
    Calls Tryz.prog 124 #[.string s,.bool ins,.func (.func 142) #[] #[.pointer (some ⟨q.bT,0,none⟩),.pointer (some ⟨q.bE,0,none⟩),.pointer (some ⟨q.bD,0,none⟩)]] W fun e w'=>e=.returned (.tuple #[])∧Tell q (A++inlineS s.data.toList ins) w'∧Kl q W w'
theorem inl_len (l:List UInt8) (ins:Bool):(inlineS l ins).length≤2 * l.length:=(inlF_facts (l.length+1)).1 l ins
set_option maxRecDepth 100000 in
set_option maxHeartbeats 2000000 in
theorem linkin_any (q:Tl) (m:Int) (N:Nat) (hC:PartC q m N) (s:ByteArray) (ins:Bool) (A:List Ev) (bi be bo:Nat) (W:World) (hN:s.size < N) (hs:s.size≤1073741824) (hT:Tell q A W) (hM:ML q m W) (hL:lastOk A) (hlen:A.length+2 * s.size≤1099511627776) (hx:∀ e ∈ A,e.text.length+s.size≤1099511627776)
    (h1:W.heap[bi]?=some (.cells #[.string s] 9 (0,0))) (h2:W.heap[be]?=some (.cells #[.bool ins] 4 (0,0))) (h3:W.heap[bo]?=some (.cells #[tellV q] 116 (0,0))) :
    Calls Tryz.prog 198 #[.pointer (some ⟨bi,0,none⟩),.pointer (some ⟨be,0,none⟩),.pointer (some ⟨bo,0,none⟩)] W fun e w'=>e=.returned (.tuple #[])∧Tell q (A++inlineS s.data.toList ins) w'∧Kl q W w':=by
  have c1:=cell_of_one h1
  have c2:=cell_of_one h2
  have c3:=cell_of_one h3
  have hc:=hC s ins A W hN hs hT hM hL hlen hx
  generalize A++inlineS s.data.toList ins=A2 at hc ⊢
  unfold tellV at c3
  clear hT hM hL hx h1 h2 h3 hC hlen
  go_enter Tryz.func198,Tryz.ntmps198
  go_wp2_with (go_at_call 124;refine hc.mono ?_;rintro e w1 ⟨rfl,T1,K1⟩)
  go_end0
  exact ⟨rfl,T1,K1⟩
set_option maxRecDepth 100000 in
set_option maxHeartbeats 2000000 in
theorem emphin_any (q:Tl) (m:Int) (N:Nat) (hC:PartC q m N) (s:ByteArray) (n:Nat) (A:List Ev) (bs bn bo:Nat) (W:World) (hn:1≤n) (hns:n≤s.size) (hN:s.size≤N) (hs:s.size≤1073741824) (hT:Tell q A W) (hM:ML q m W) (hL:lastOk A) (hlen:A.length+2 * n≤1099511627776) (hx:∀ e ∈ A,e.text.length+s.size≤1099511627776)
    (h1:W.heap[bs]?=some (.cells #[.string s] 9 (0,0))) (h2:W.heap[bn]?=some (.cells #[.int .i64 (n:Int)] 3 (0,0))) (h3:W.heap[bo]?=some (.cells #[tellV q] 116 (0,0))) :
    Calls Tryz.prog 200 #[.pointer (some ⟨bs,0,none⟩),.pointer (some ⟨bn,0,none⟩),.pointer (some ⟨bo,0,none⟩)] W fun e w'=>e=.returned (.tuple #[])∧Tell q (A++inlineS (cut s.data.toList 1 n) true) w'∧Kl q W w':=by
  have c1:=cell_of_one h1
  have c2:=cell_of_one h2
  have c3:=cell_of_one h3
  have hz:(s.extract 1 n).size=n - 1:=by rw [ByteArray.size_extract];omega
  have hcut:(s.extract 1 n).data.toList=cut s.data.toList 1 n:=by rw [ba_cut]
  have hbd:Below W.heap.size W W.drew:=(Below.refl _ W).drew
  have hc:=hC (s.extract 1 n) true A W.drew (by omega) (by omega) (hT.below hbd) (hM.below hT hbd) hL (by omega) (fun e he=>by have:=hx e he;omega)
  rw [hcut] at hc
  have HK:Hid (Kl q W W.drew):=Kl.below hbd hT.b0lt
  generalize A++inlineS (cut s.data.toList 1 n) true=A2 at hc ⊢
  unfold tellV at c3
  have z1:(n:Int)≤(s.size:Int):=by omega
  have z2:(1:Int)≤(n:Int):=by omega
  clear hT hM hL hx h1 h2 h3 hC hlen hcut hz hbd
  go_enter Tryz.func200,Tryz.ntmps200
  go_wp2_with fail
  go_region_with (go_at_call 124;refine hc.mono ?_;rintro e w1 ⟨rfl,T1,K1⟩)
  all_goals
    go_wp2_with fail
    go_end0
    exact ⟨rfl,T1,HK.out.trans K1⟩
end Go.Proofs.YtljcljipppjnoaaGreatDoor
namespace Go.Proofs.YtljcljipppjnoaaGreatDoor
open Go.RowKit Go.Shelf
theorem alloc2 (W:World) (a b:Obj):Below W.heap.size W ((W.alloc a).alloc b)∧((W.alloc a).alloc b).heap.size=W.heap.size+2∧((W.alloc a).alloc b).heap[W.heap.size]?=some a∧((W.alloc a).alloc b).heap[W.heap.size+1]?=some b:=by
  refine ⟨((Below.refl _ W).alloc (Nat.le_refl _) _).alloc (by simp) _,by simp,?_,?_⟩
  · exact heap_al _ _ (by simp) (heap_alloc_new W _)
  · have:=heap_alloc_new (W.alloc a) b
    simpa using this
set_option maxRecDepth 100000 in
set_option maxHeartbeats 4000000 in
theorem link_any (q:Tl) (m:Int) (N:Nat) (hC:PartC q m N) (A:List Ev) (s:ByteArray) (ins:Bool) (W:World) (hT:Tell q A W) (hM:ML q m W) (h0:s.data.toList[0]?=some 91) (hN:s.size≤N) (hs:s.size≤1073741824) (hlen:A.length+2 * s.size≤1099511627776) (hx:∀ e ∈ A,e.text.length+s.size≤1099511627776) (X:List Ev × Nat) (hX:oneS inlineS s.data.toList 0 ins=X) :
    Calls Tryz.prog 172 #[.string s,.bool ins,.func (.func 142) #[] #[.pointer (some ⟨q.bT,0,none⟩),.pointer (some ⟨q.bE,0,none⟩),.pointer (some ⟨q.bD,0,none⟩)]] W fun e w'=>e=.returned (.int .i64 X.2)∧Tell q (glue A X.1) w'∧Kl q W w':=by
  have hmf:∀ (fn:Fn) (first cap:Array Value) (w:World),(Instr.makeFunc fn first cap).run Tryz.prog w=.ok (.func fn first cap) w:=fun _ _ _ _=>rfl
  have hl:=ba_len s
  have hb0:=hT.b0lt
  have cL:=fun W=>dlink_any s W h0 hs
  unfold oneS at hX
  rw [if_neg (by rw [h0];simp),if_neg (by rw [h0];simp),if_neg (by rw [h0];simp),if_pos h0] at hX
  obtain ⟨b2,z2,x1,x2⟩:=alloc2 W (.cells #[.bool ins] 4) (.cells #[.func (.func 142) #[] #[.pointer (some ⟨q.bT,0,none⟩),.pointer (some ⟨q.bE,0,none⟩),.pointer (some ⟨q.bD,0,none⟩)]] 116)
  obtain ⟨W2,hW2⟩:∃ W2,(W.alloc (.cells #[.bool ins] 4)).alloc (.cells #[.func (.func 142) #[] #[.pointer (some ⟨q.bT,0,none⟩),.pointer (some ⟨q.bE,0,none⟩),.pointer (some ⟨q.bD,0,none⟩)]] 116)=W2:=⟨_,rfl⟩
  rw [hW2] at b2 z2 x1 x2
  cases hk:linkS s.data.toList 0 with
  | none =>
    rw [hk] at cL hX
    simp only at hX
    subst hX
    show Calls _ _ _ _ (fun e w'=>e=.returned (.int .i64 0)∧Tell q (glue A []) w'∧Kl q W w')
    rw [glue_nil]
    have cL2:Calls Tryz.prog 197 #[.string s] W2 fun e w'=>e=.returned (.tuple #[.string ⟨#[]⟩,.string ⟨#[]⟩,.bool false])∧Below W2.heap.size W2 w':=cL W2
    have HF:Hid (∀ w3 w4,Below W2.heap.size W2 w3→Below w3.heap.size w3 w4→Tell q A w4∧Kl q W w4):=by
      intro w3 w4 b3 b4
      have bb:Below W.heap.size W w4:=b2.trans ((b3.mono (by omega)).trans (b4.mono (by have:=b3.size;omega)))
      exact ⟨hT.below bb,Kl.below bb hb0⟩
    rw [← hW2] at cL2 HF
    clear hT hM hC hx hk cL hlen h0 b2 z2 x1 x2 hW2
    go_enter Tryz.func172,Tryz.ntmps172
    go_wp2_with (go_at_call 197;refine cL2.mono ?_;rintro e w3 ⟨rfl,b3⟩)
    go_ret
    obtain ⟨TF,KF⟩:=HF.out w3 _ b3 ((Below.refl _ w3).alloc (Nat.le_refl _) _)
    exact ⟨rfl,TF,KF⟩
  | some x =>
    obtain ⟨a1,a2,a3⟩:=link_facts s.data.toList 0 x hk h0
    rw [hk] at cL hX
    simp only at hX
    rw [hl] at a3
    obtain ⟨ib,hib⟩:∃ ib:ByteArray,ib=⟨(cut s.data.toList 1 x.1).toArray⟩:=⟨_,rfl⟩
    have hid:ib.data.toList=cut s.data.toList (0+1) x.1:=by rw [hib]
    have hiz:ib.size=x.1 - 1:=by rw [hib,size_of,cut_len _ _ _ (by omega)]
    have hlz:(cut s.data.toList (x.1+2) x.2).length=x.2 - (x.1+2):=cut_len _ _ _ (by omega)
    have cL2:Calls Tryz.prog 197 #[.string s] W2 fun e w'=>e=.returned (.tuple #[.string ib,.string ⟨(cut s.data.toList (x.1+2) x.2).toArray⟩,.bool true])∧Below W2.heap.size W2 w':=by rw [hib];exact cL W2
    rw [← hid] at hX
    have hml:=inl_len ib.data.toList ins
    rw [ba_len] at hml
    generalize cut s.data.toList (x.1+2) x.2=ld at hX hlz cL2
    subst hX
    show Calls _ _ _ _ (fun e w'=>e=.returned (.int .i64 ((x.2+1 - 0:Nat):Int))∧Tell q (glue A ([⟨7,false,0,ld⟩]++inlineS ib.data.toList ins++[⟨7,true,0,[]⟩])) w'∧Kl q W w')
    rw [glue_many A _ (by simp)]
    have HW:Hid (∀ w3,Below W2.heap.size W2 w3→Calls Tryz.prog 152 #[.agg #[.int .i64 7,.bool false,.int .i64 0,.string ⟨ld.toArray⟩],.func (.func 142) #[] #[.pointer (some ⟨q.bT,0,none⟩),.pointer (some ⟨q.bE,0,none⟩),.pointer (some ⟨q.bD,0,none⟩)],.func (.func 198) #[] #[.pointer (some ⟨w3.heap.size,0,none⟩),.pointer (some ⟨W.heap.size,0,none⟩),.pointer (some ⟨W.heap.size+1,0,none⟩)]] (w3.alloc (.cells #[.string ib] 9)) fun e w'=>e=.returned (.tuple #[])∧Tell q (A++([⟨7,false,0,ld⟩]++inlineS ib.data.toList ins++[⟨7,true,0,[]⟩])) w'∧Kl q W w'∧w'.cell? ⟨w3.heap.size,0,none⟩=some (.string ib)):=by
      intro w3 b3
      have s3:=b3.size
      obtain ⟨W4,hW4⟩:∃ W4,w3.alloc (.cells #[.string ib] 9)=W4:=⟨_,rfl⟩
      have b4:Below w3.heap.size w3 W4:=by rw [← hW4];exact (Below.refl _ _).alloc (Nat.le_refl _) _
      have x4:W4.heap[w3.heap.size]?=some (.cells #[.string ib] 9 (0,0)):=by rw [← hW4];exact heap_alloc_new _ _
      have bb:Below W.heap.size W W4:=b2.trans ((b3.mono (by omega)).trans (b4.mono (by omega)))
      have y1:W4.heap[W.heap.size]?=some (.cells #[.bool ins] 4 (0,0)):=(b4.block _ (by omega)).trans ((b3.block _ (by omega)).trans x1)
      have y2:W4.heap[W.heap.size+1]?=some (.cells #[tellV q] 116 (0,0)):=(b4.block _ (by omega)).trans ((b3.block _ (by omega)).trans x2)
      have hT4:=hT.below bb
      have hM4:=hM.below hT bb
      rw [hW4]
      have hcl:=lwithin_any q A (inlineS ib.data.toList ins) ⟨7,false,0,ld⟩ (by show (7:Int) ≠ 8;decide) 198 #[.pointer (some ⟨w3.heap.size,0,none⟩),.pointer (some ⟨W.heap.size,0,none⟩),.pointer (some ⟨W.heap.size+1,0,none⟩)] W4 (enters_of Tryz.func198 (by kernel_rfl) rfl) hT4 (by omega)
        (fun W' hT' hK'=>linkin_any q m N hC ib ins (A++[⟨7,false,0,ld⟩]) w3.heap.size W.heap.size (W.heap.size+1) W' (by omega) (by omega) hT' (hM4.keep hT4 hK') (last_snoc _ _ (by show (7:Int) ≠ 8;decide)) (by simp;omega)
          (fun e he=>by
            rcases List.mem_append.1 he with he | he
            · have:=hx e he;omega
            · simp at he;subst he;simp only;omega)
          (hT4.kept hK' x4 (by decide) (by decide) (hT4.off x4 (by decide) (by decide))) (hT4.kept hK' y1 (by decide) (by decide) (hT4.off y1 (by decide) (by decide))) (hT4.kept hK' y2 (by decide) (by decide) (hT4.off y2 (by decide) (by decide))))
      refine hcl.mono ?_
      rintro e w5 ⟨rfl,T5,K5⟩
      refine ⟨rfl,by simpa [evEnd] using T5,(Kl.below bb hb0).trans K5,cell_of_one (hT4.kept K5 x4 (by decide) (by decide) (hT4.off x4 (by decide) (by decide)))⟩
    have HC:Hid (∀ w3,Below W2.heap.size W2 w3→(w3.alloc (.cells #[.string ib] 9)).cell? ⟨W.heap.size+1,0,none⟩=some (.func (.func 142) #[] #[.pointer (some ⟨q.bT,0,none⟩),.pointer (some ⟨q.bE,0,none⟩),.pointer (some ⟨q.bD,0,none⟩)])):=by
      intro w3 b3
      have s3:=b3.size
      exact cell_of_one (heap_al w3 _ (by omega) ((b3.block _ (by omega)).trans x2))
    rw [← hW2] at cL2 HW HC
    generalize A++([⟨7,false,0,ld⟩]++inlineS ib.data.toList ins++[⟨7,true,0,[]⟩])=A2 at HW ⊢
    have hls:=size_of ld
    clear hT hM hC hx hk cL hlen h0 b2 z2 x1 x2 hW2 hib hid hml hl
    go_enter Tryz.func172,Tryz.ntmps172
    go_wp2_with (first | (go_at_call 197;refine cL2.mono ?_;rintro e w3 ⟨rfl,b3⟩;have c3:=HC.out w3 b3) | (go_at_call 152;refine (HW.out w3 b3).mono ?_;rintro e w5 ⟨rfl,T5,K5,c5⟩))
    go_ret
    exact ⟨congrArg (fun z:Int=>Ending.returned (Value.int IntKind.i64 z)) (by omega),T5,K5⟩
set_option maxRecDepth 100000 in
set_option maxHeartbeats 4000000 in
theorem emph_any (q:Tl) (m:Int) (N:Nat) (hC:PartC q m N) (A:List Ev) (s:ByteArray) (ins:Bool) (W:World) (hT:Tell q A W) (hM:ML q m W) (h0:s.data.toList[0]?=some 42) (hN:s.size≤N) (hs:s.size≤1073741824) (hlen:A.length+2 * s.size≤1099511627776) (hx:∀ e ∈ A,e.text.length+s.size≤1099511627776) (X:List Ev × Nat) (hX:oneS inlineS s.data.toList 0 ins=X) :
    Calls Tryz.prog 173 #[.string s,.bool ins,.func (.func 142) #[] #[.pointer (some ⟨q.bT,0,none⟩),.pointer (some ⟨q.bE,0,none⟩),.pointer (some ⟨q.bD,0,none⟩)]] W fun e w'=>e=.returned (.int .i64 X.2)∧Tell q (glue A X.1) w'∧Kl q W w':=by
  have hmf:∀ (fn:Fn) (first cap:Array Value) (w:World),(Instr.makeFunc fn first cap).run Tryz.prog w=.ok (.func fn first cap) w:=fun _ _ _ _=>rfl
  have hl:=ba_len s
  have hb0:=hT.b0lt
  have h1:1≤s.size:=by
    have:=(List.getElem?_eq_some_iff.1 h0).1
    omega
  unfold oneS at hX
  rw [if_neg (by rw [h0];simp),if_neg (by rw [h0];simp),if_neg (by rw [h0];simp),if_neg (by rw [h0];simp),if_pos h0] at hX
  obtain ⟨b2,z2,x1,x2⟩:=alloc2 W (.cells #[.string s] 9) (.cells #[.func (.func 142) #[] #[.pointer (some ⟨q.bT,0,none⟩),.pointer (some ⟨q.bE,0,none⟩),.pointer (some ⟨q.bD,0,none⟩)]] 116)
  obtain ⟨W2,hW2⟩:∃ W2,(W.alloc (.cells #[.string s] 9)).alloc (.cells #[.func (.func 142) #[] #[.pointer (some ⟨q.bT,0,none⟩),.pointer (some ⟨q.bE,0,none⟩),.pointer (some ⟨q.bD,0,none⟩)]] 116)=W2:=⟨_,rfl⟩
  rw [hW2] at b2 z2 x1 x2
  cases ins with
  | true =>
    rw [if_pos rfl] at hX
    subst hX
    show Calls _ _ _ _ (fun e w'=>e=.returned (.int .i64 0)∧Tell q (glue A []) w'∧Kl q W w')
    rw [glue_nil]
    have HF:Hid (Tell q A W2∧Kl q W W2):=⟨hT.below b2,Kl.below b2 hb0⟩
    rw [← hW2] at HF
    clear hT hM hC hx hlen h0 b2 z2 x1 x2 hW2
    go_enter Tryz.func173,Tryz.ntmps173
    go_wp2
    go_ret
    exact ⟨rfl,HF.out.1,HF.out.2⟩
  | false =>
    rw [if_neg (by simp)] at hX
    have cP:=dpartner_any s W2 h1 hs
    have hcs:=cell_of_one x1
    cases hk:partnerS s.data.toList 0 with
    | none =>
      rw [hk] at hX
      simp only at hX
      subst hX
      rw [partZ,hk] at cP
      simp only at cP
      show Calls _ _ _ _ (fun e w'=>e=.returned (.int .i64 0)∧Tell q (glue A []) w'∧Kl q W w')
      rw [glue_nil]
      have HF:Hid (∀ w4,Below W2.heap.size W2 w4→Tell q A w4∧Kl q W w4):=by
        intro w4 b4
        have bb:Below W.heap.size W w4:=b2.trans (b4.mono (by omega))
        exact ⟨hT.below bb,Kl.below bb hb0⟩
      rw [← hW2] at cP HF hcs
      clear hT hM hC hx hk hlen h0 b2 z2 x1 x2 hW2
      go_enter Tryz.func173,Tryz.ntmps173
      go_wp2_with (go_at_call 199;refine cP.mono ?_;rintro e w' ⟨rfl,hw⟩;rw [hw];clear hw)
      go_ret
      obtain ⟨TF,KF⟩:=HF.out _ ((Below.refl _ _).alloc (Nat.le_refl _) _)
      exact ⟨rfl,TF,KF⟩
    | some j =>
      obtain ⟨a1,a2⟩:=partner_facts s.data.toList 0 j hk
      rw [hl] at a2
      rw [hk] at hX
      simp only at hX
      rw [partZ,hk] at cP
      simp only at cP
      have hcz:(cut s.data.toList (0+1) j).length=j - 1:=cut_len _ _ _ (by omega)
      have hml:=inl_len (cut s.data.toList (0+1) j) true
      subst hX
      show Calls _ _ _ _ (fun e w'=>e=.returned (.int .i64 ((j+1 - 0:Nat):Int))∧Tell q (glue A ([⟨6,false,0,[]⟩]++inlineS (cut s.data.toList (0+1) j) true++[⟨6,true,0,[]⟩])) w'∧Kl q W w')
      rw [glue_many A _ (by simp)]
      obtain ⟨W4,hW4⟩:∃ W4,W2.alloc (.cells #[.int .i64 (j:Int)] 3)=W4:=⟨_,rfl⟩
      have b4:Below W2.heap.size W2 W4:=by rw [← hW4];exact (Below.refl _ _).alloc (Nat.le_refl _) _
      have x4:W4.heap[W.heap.size+2]?=some (.cells #[.int .i64 (j:Int)] 3 (0,0)):=by rw [← z2,← hW4];exact heap_alloc_new _ _
      have bb:Below W.heap.size W W4:=b2.trans (b4.mono (by omega))
      have y1:W4.heap[W.heap.size]?=some (.cells #[.string s] 9 (0,0)):=(b4.block _ (by omega)).trans x1
      have y2:W4.heap[W.heap.size+1]?=some (.cells #[tellV q] 116 (0,0)):=(b4.block _ (by omega)).trans x2
      have hT4:=hT.below bb
      have hM4:=hM.below hT bb
      have hd4:=cell_of_one y2
      have hn4:=cell_of_one x4
      unfold tellV at hd4
      have hcl:=lwithin_any q A (inlineS (cut s.data.toList (0+1) j) true) ⟨6,false,0,[]⟩ (by decide) 200 #[.pointer (some ⟨W.heap.size,0,none⟩),.pointer (some ⟨W.heap.size+2,0,none⟩),.pointer (some ⟨W.heap.size+1,0,none⟩)] W4 (enters_of Tryz.func200 (by kernel_rfl) rfl) hT4 (by omega)
        (fun W' hT' hK'=>emphin_any q m N hC s j (A++[⟨6,false,0,[]⟩]) W.heap.size (W.heap.size+2) (W.heap.size+1) W' (by omega) (by omega) hN hs hT' (hM4.keep hT4 hK') (last_snoc _ _ (by decide)) (by simp;omega)
          (fun e he=>by
            rcases List.mem_append.1 he with he | he
            · exact hx e he
            · simp at he;subst he;simp;omega)
          (hT4.kept hK' y1 (by decide) (by decide) (hT4.off y1 (by decide) (by decide))) (hT4.kept hK' x4 (by decide) (by decide) (hT4.off x4 (by decide) (by decide))) (hT4.kept hK' y2 (by decide) (by decide) (hT4.off y2 (by decide) (by decide))))
      have HW:Hid (Calls Tryz.prog 152 #[.agg #[.int .i64 6,.bool false,.int .i64 0,.string ⟨#[]⟩],.func (.func 142) #[] #[.pointer (some ⟨q.bT,0,none⟩),.pointer (some ⟨q.bE,0,none⟩),.pointer (some ⟨q.bD,0,none⟩)],.func (.func 200) #[] #[.pointer (some ⟨W.heap.size,0,none⟩),.pointer (some ⟨W.heap.size+2,0,none⟩),.pointer (some ⟨W.heap.size+1,0,none⟩)]] W4 fun e w'=>e=.returned (.tuple #[])∧Tell q (A++([⟨6,false,0,[]⟩]++inlineS (cut s.data.toList (0+1) j) true++[⟨6,true,0,[]⟩])) w'∧Kl q W w'∧w'.cell? ⟨W.heap.size+2,0,none⟩=some (.int .i64 (j:Int))):=by
        refine hcl.mono ?_
        rintro e w5 ⟨rfl,T5,K5⟩
        refine ⟨rfl,by simpa [evEnd] using T5,(Kl.below bb hb0).trans K5,cell_of_one (hT4.kept K5 x4 (by decide) (by decide) (hT4.off x4 (by decide) (by decide)))⟩
      rw [← hW4,← hW2] at HW hd4 hn4
      rw [← hW2] at cP hcs
      generalize A++([⟨6,false,0,[]⟩]++inlineS (cut s.data.toList (0+1) j) true++[⟨6,true,0,[]⟩])=A2 at HW ⊢
      have g0:((j:Int) == 0)=false:=by rw [beq_eq_false_iff_ne];omega
      clear hT hM hC hx hk hlen h0 b2 z2 x1 x2 hW2 hml hl hcz hcl hT4 hM4 y1 y2 x4 bb b4 hW4
      go_enter Tryz.func173,Tryz.ntmps173
      go_wp2_with (first | (go_at_call 199;refine cP.mono ?_;rintro e w' ⟨rfl,hw⟩;rw [hw];clear hw) | (go_at_call 152;refine HW.out.mono ?_;rintro e w5 ⟨rfl,T5,K5,c5⟩))
      go_ret
      exact ⟨congrArg (fun z:Int=>Ending.returned (Value.int IntKind.i64 z)) (by omega),T5,K5⟩
end Go.Proofs.YtljcljipppjnoaaGreatDoor
namespace Go.Proofs.YtljcljipppjnoaaGreatDoor
open Go.RowKit Go.Shelf
def ftS (f:List UInt8→Bool→List Ev) (l:List UInt8) (ins:Bool):List Ev × Nat :=
  if (oneS f l 0 ins).2=0 then ([⟨8,false,0,l.take (plainLen l)⟩],plainLen l) else oneS f l 0 ins
theorem ft_eq (f:List UInt8→Bool→List Ev) (l:List UInt8) (hl:l ≠ []) (ins:Bool) (acc:List Ev):inlFrom f l ins 0 acc=inlFrom f (l.drop (ftS f l ins).2) ins 0 (glue acc (ftS f l ins).1):=by
  unfold ftS
  by_cases h:(oneS f l 0 ins).2=0
  · rw [if_pos h,inl_plain f l hl ins acc h,glue_text']
  · rw [if_neg h,inl_step f l hl,if_neg h]
theorem ft_facts (f:List UInt8→Bool→List Ev) (hfl:∀ l ins,(f l ins).length≤2 * l.length) (hft:∀ l ins,∀ e ∈ f l ins,e.text.length≤l.length) (l:List UInt8) (hl:l ≠ []) (ins:Bool) :
    1≤(ftS f l ins).2∧(ftS f l ins).2≤l.length∧(ftS f l ins).1.length≤2 * (ftS f l ins).2∧∀ e ∈ (ftS f l ins).1,e.text.length≤(ftS f l ins).2:=by
  have hp:=plain_le l hl
  unfold ftS
  by_cases h:(oneS f l 0 ins).2=0
  · rw [if_pos h]
    refine ⟨hp.1,hp.2,by simp;omega,fun e he=>?_⟩
    simp at he
    subst he
    simp only [List.length_take]
    omega
  · rw [if_neg h]
    obtain ⟨f1,f2⟩:=one_facts f hfl l 0 (List.length_pos_iff.2 hl) ins
    exact ⟨by omega,by omega,f1,one_text f hft l 0 ins⟩
theorem lfirst_fin (q:Tl) (A:List Ev) (s:ByteArray) (h1:1≤s.size) (hs:s.size≤1073741824) (hx:∀ e ∈ A,e.text.length≤1099511627776) (W W1 W2:World) (hT:Tell q A W1) (hK:Kl q W W1) (b2:Below W1.heap.size W1 W2) :
    Calls Tryz.prog 62 #[.string (s.extract 0 (plainLen s.data.toList)),.func (.func 142) #[] #[.pointer (some ⟨q.bT,0,none⟩),.pointer (some ⟨q.bE,0,none⟩),.pointer (some ⟨q.bD,0,none⟩)]] W2 fun e w'=>e=.returned (.tuple #[])∧Tell q (glue A [⟨8,false,0,s.data.toList.take (plainLen s.data.toList)⟩]) w'∧Kl q W w':=by
  have hne:s.data.toList ≠ []:=fun h=>by have:=ba_len s;rw [h] at this;simp at this;omega
  obtain ⟨p1,p2⟩:=plain_le s.data.toList hne
  rw [ba_len] at p2
  have hz:(s.extract 0 (plainLen s.data.toList)).size=plainLen s.data.toList:=by rw [ByteArray.size_extract];omega
  refine (ltext_any q A (s.extract 0 (plainLen s.data.toList)) W2 (hT.below b2) (by omega) (by omega) hx).mono ?_
  rintro e w3 ⟨rfl,T3,K3⟩
  rw [take_data] at T3
  rw [glue_text']
  exact ⟨rfl,T3,(hK.trans (Kl.below b2 hT.b0lt)).trans K3⟩
set_option maxRecDepth 100000 in
set_option maxHeartbeats 8000000 in
theorem first_any (q:Tl) (m:Int) (N:Nat) (hC:PartC q m N) (A:List Ev) (s:ByteArray) (ins:Bool) (W:World) (hT:Tell q A W) (hM:ML q m W) (h1:1≤s.size) (hN:s.size≤N) (hs:s.size≤1073741824) (hlen:A.length+2 * s.size≤1099511627776) (hx:∀ e ∈ A,e.text.length+s.size≤1099511627776) (X:List Ev × Nat) (hX:ftS inlineS s.data.toList ins=X) :
    Calls Tryz.prog 143 #[.string s,.bool ins,.func (.func 142) #[] #[.pointer (some ⟨q.bT,0,none⟩),.pointer (some ⟨q.bE,0,none⟩),.pointer (some ⟨q.bD,0,none⟩)]] W fun e w'=>e=.returned (.int .i64 X.2)∧Tell q (glue A X.1) w'∧Kl q W w':=by
  have hat:s.data.toList[0]?=some s[0]:=at_some s 0 h1
  have hxA:∀ e ∈ A,e.text.length≤1099511627776:=fun e he=>by have:=hx e he;omega
  have hne:s.data.toList ≠ []:=fun h=>by have:=ba_len s;rw [h] at this;simp at this;omega
  obtain ⟨p1,p2⟩:=plain_le s.data.toList hne
  rw [ba_len] at p2
  obtain ⟨Y,hY⟩:∃ Y,oneS inlineS s.data.toList 0 ins=Y:=⟨_,rfl⟩
  have hX2:(if Y.2=0 then ([⟨8,false,0,s.data.toList.take (plainLen s.data.toList)⟩],plainLen s.data.toList) else Y)=X:=by rw [← hX,ftS,hY]
  have hO:∀ e,(oneS inlineS s.data.toList 0 ins).2=0→e ∈ (oneS inlineS s.data.toList 0 ins).1→False:=by
    intro e h0 he
    have hlI:=(one_facts inlineS inl_len s.data.toList 0 (List.length_pos_iff.2 hne) ins).1
    rw [h0] at hlI
    have:(oneS inlineS s.data.toList 0 ins).1=[]:=List.length_eq_zero_iff.1 (by omega)
    rw [this] at he
    cases he
  have hY1:Y.2=0→Y.1=[]:=fun h=>by
    rw [← hY] at h ⊢
    exact List.eq_nil_iff_forall_not_mem.2 fun e he=>hO e h he
  have HF:Hid (∀ W1 W2,Tell q A W1→Kl q W W1→Below W1.heap.size W1 W2→_):=fun W1 W2 hT1 hK1 b2=>lfirst_fin q A s h1 hs hxA W W1 W2 hT1 hK1 b2
  have cP:=fun W=>pln_any s W h1 hs
  have t92:=u8_eq s[0] 92
  have t10:=u8_eq s[0] 10
  have t96:=u8_eq s[0] 96
  have t91:=u8_eq s[0] 91
  have t42:=u8_eq s[0] 42
  by_cases h92:s[0]=92
  · have g92:((s[0].toNat:Int) == 92)=true:=by rw [h92];rfl
    have h0:s.data.toList[0]?=some 92:=by rw [hat,h92]
    have cS:=slash_any q A inlineS s ins W hT h0 hs (by omega) hxA Y hY
    by_cases hz:Y.2=0
    · rw [if_pos hz] at hX2
      subst hX2
      rw [hz,hY1 hz,glue_nil] at cS
      show Calls _ _ _ _ (fun e w'=>e=.returned (.int .i64 (plainLen s.data.toList:Int))∧Tell q (glue A [⟨8,false,0,s.data.toList.take (plainLen s.data.toList)⟩]) w'∧Kl q W w')
      generalize glue A [⟨8,false,0,s.data.toList.take (plainLen s.data.toList)⟩]=A2 at HF ⊢
      generalize plainLen s.data.toList=n at HF cP p1 p2 ⊢
      clear hT hM hC hx hxA hX hO hY1 hY hat hlen hne h0 hz
      go_enter Tryz.func143,Tryz.ntmps143
      go_wp2_with (first | (go_at_call 169;refine cS.mono ?_;rintro e w1 ⟨rfl,T1,K1⟩) | (go_at_call 174;refine (cP _).mono ?_;rintro e w2 ⟨rfl,b2⟩) | (go_at_call 62;refine (HF.out _ _ T1 K1 b2).mono ?_;rintro e w3 ⟨rfl,T3,K3⟩))
      go_ret
      exact ⟨rfl,T3,K3⟩
    · rw [if_neg hz] at hX2
      subst hX2
      have hzb:((Y.2:Int) == 0)=false:=by rw [beq_eq_false_iff_ne];omega
      generalize glue A Y.1=A2 at cS ⊢
      generalize Y.2=n at cS hzb ⊢
      clear hT hM hC hx hxA hX hO hY1 hY hat hlen hne h0 hz HF cP
      go_enter Tryz.func143,Tryz.ntmps143
      go_wp2_with (go_at_call 169;refine cS.mono ?_;rintro e w1 ⟨rfl,T1,K1⟩)
      go_ret
      exact ⟨rfl,T1,K1⟩
  have g92:((s[0].toNat:Int) == 92)=false:=t92.trans (beq_eq_false_iff_ne.2 h92)
  by_cases h10:s[0]=10
  · have g10:((s[0].toNat:Int) == 10)=true:=by rw [h10];rfl
    have h0:s.data.toList[0]?=some 10:=by rw [hat,h10]
    have hY0:Y=([⟨10,false,0,[]⟩],1):=by rw [← hY];unfold oneS;rw [if_neg (by rw [h0];simp),if_pos h0]
    have cS:=feed_any q A W hT (by omega)
    rw [hY0,if_neg (by simp)] at hX2
    subst hX2
    show Calls _ _ _ _ (fun e w'=>e=.returned (.int .i64 1)∧Tell q (glue A [⟨10,false,0,[]⟩]) w'∧Kl q W w')
    rw [glue_one A ⟨10,false,0,[]⟩ (by decide)]
    generalize A++[⟨10,false,0,[]⟩]=A2 at cS ⊢
    clear hT hM hC hx hxA hX hO hY1 hY hat hlen hne h0 hY0 HF cP
    go_enter Tryz.func143,Tryz.ntmps143
    go_wp2_with (go_at_call 170;refine cS.mono ?_;rintro e w1 ⟨rfl,T1,K1⟩)
    go_ret
    exact ⟨rfl,T1,K1⟩
  have g10:((s[0].toNat:Int) == 10)=false:=t10.trans (beq_eq_false_iff_ne.2 h10)
  by_cases h96:s[0]=96
  · have g96:((s[0].toNat:Int) == 96)=true:=by rw [h96];rfl
    have h0:s.data.toList[0]?=some 96:=by rw [hat,h96]
    have cS:=code_any q m A inlineS s ins W hT hM h0 hs (by omega) Y hY
    by_cases hz:Y.2=0
    · rw [if_pos hz] at hX2
      subst hX2
      rw [hz,hY1 hz,glue_nil] at cS
      show Calls _ _ _ _ (fun e w'=>e=.returned (.int .i64 (plainLen s.data.toList:Int))∧Tell q (glue A [⟨8,false,0,s.data.toList.take (plainLen s.data.toList)⟩]) w'∧Kl q W w')
      generalize glue A [⟨8,false,0,s.data.toList.take (plainLen s.data.toList)⟩]=A2 at HF ⊢
      generalize plainLen s.data.toList=n at HF cP p1 p2 ⊢
      clear hT hM hC hx hxA hX hO hY1 hY hat hlen hne h0 hz
      go_enter Tryz.func143,Tryz.ntmps143
      go_wp2_with (first | (go_at_call 171;refine cS.mono ?_;rintro e w1 ⟨rfl,T1,K1⟩) | (go_at_call 174;refine (cP _).mono ?_;rintro e w2 ⟨rfl,b2⟩) | (go_at_call 62;refine (HF.out _ _ T1 K1 b2).mono ?_;rintro e w3 ⟨rfl,T3,K3⟩))
      go_ret
      exact ⟨rfl,T3,K3⟩
    · rw [if_neg hz] at hX2
      subst hX2
      have hzb:((Y.2:Int) == 0)=false:=by rw [beq_eq_false_iff_ne];omega
      generalize glue A Y.1=A2 at cS ⊢
      generalize Y.2=n at cS hzb ⊢
      clear hT hM hC hx hxA hX hO hY1 hY hat hlen hne h0 hz HF cP
      go_enter Tryz.func143,Tryz.ntmps143
      go_wp2_with (go_at_call 171;refine cS.mono ?_;rintro e w1 ⟨rfl,T1,K1⟩)
      go_ret
      exact ⟨rfl,T1,K1⟩
  have g96:((s[0].toNat:Int) == 96)=false:=t96.trans (beq_eq_false_iff_ne.2 h96)
  by_cases h91:s[0]=91
  · have g91:((s[0].toNat:Int) == 91)=true:=by rw [h91];rfl
    have h0:s.data.toList[0]?=some 91:=by rw [hat,h91]
    have cS:=link_any q m N hC A s ins W hT hM h0 hN hs hlen hx Y hY
    by_cases hz:Y.2=0
    · rw [if_pos hz] at hX2
      subst hX2
      rw [hz,hY1 hz,glue_nil] at cS
      show Calls _ _ _ _ (fun e w'=>e=.returned (.int .i64 (plainLen s.data.toList:Int))∧Tell q (glue A [⟨8,false,0,s.data.toList.take (plainLen s.data.toList)⟩]) w'∧Kl q W w')
      generalize glue A [⟨8,false,0,s.data.toList.take (plainLen s.data.toList)⟩]=A2 at HF ⊢
      generalize plainLen s.data.toList=n at HF cP p1 p2 ⊢
      clear hT hM hC hx hxA hX hO hY1 hY hat hlen hne h0 hz
      go_enter Tryz.func143,Tryz.ntmps143
      go_wp2_with (first | (go_at_call 172;refine cS.mono ?_;rintro e w1 ⟨rfl,T1,K1⟩) | (go_at_call 174;refine (cP _).mono ?_;rintro e w2 ⟨rfl,b2⟩) | (go_at_call 62;refine (HF.out _ _ T1 K1 b2).mono ?_;rintro e w3 ⟨rfl,T3,K3⟩))
      go_ret
      exact ⟨rfl,T3,K3⟩
    · rw [if_neg hz] at hX2
      subst hX2
      have hzb:((Y.2:Int) == 0)=false:=by rw [beq_eq_false_iff_ne];omega
      generalize glue A Y.1=A2 at cS ⊢
      generalize Y.2=n at cS hzb ⊢
      clear hT hM hC hx hxA hX hO hY1 hY hat hlen hne h0 hz HF cP
      go_enter Tryz.func143,Tryz.ntmps143
      go_wp2_with (go_at_call 172;refine cS.mono ?_;rintro e w1 ⟨rfl,T1,K1⟩)
      go_ret
      exact ⟨rfl,T1,K1⟩
  have g91:((s[0].toNat:Int) == 91)=false:=t91.trans (beq_eq_false_iff_ne.2 h91)
  by_cases h42:s[0]=42
  · have g42:((s[0].toNat:Int) == 42)=true:=by rw [h42];rfl
    have h0:s.data.toList[0]?=some 42:=by rw [hat,h42]
    have cS:=emph_any q m N hC A s ins W hT hM h0 hN hs hlen hx Y hY
    by_cases hz:Y.2=0
    · rw [if_pos hz] at hX2
      subst hX2
      rw [hz,hY1 hz,glue_nil] at cS
      show Calls _ _ _ _ (fun e w'=>e=.returned (.int .i64 (plainLen s.data.toList:Int))∧Tell q (glue A [⟨8,false,0,s.data.toList.take (plainLen s.data.toList)⟩]) w'∧Kl q W w')
      generalize glue A [⟨8,false,0,s.data.toList.take (plainLen s.data.toList)⟩]=A2 at HF ⊢
      generalize plainLen s.data.toList=n at HF cP p1 p2 ⊢
      clear hT hM hC hx hxA hX hO hY1 hY hat hlen hne h0 hz
      go_enter Tryz.func143,Tryz.ntmps143
      go_wp2_with (first | (go_at_call 173;refine cS.mono ?_;rintro e w1 ⟨rfl,T1,K1⟩) | (go_at_call 174;refine (cP _).mono ?_;rintro e w2 ⟨rfl,b2⟩) | (go_at_call 62;refine (HF.out _ _ T1 K1 b2).mono ?_;rintro e w3 ⟨rfl,T3,K3⟩))
      go_ret
      exact ⟨rfl,T3,K3⟩
    · rw [if_neg hz] at hX2
      subst hX2
      have hzb:((Y.2:Int) == 0)=false:=by rw [beq_eq_false_iff_ne];omega
      generalize glue A Y.1=A2 at cS ⊢
      generalize Y.2=n at cS hzb ⊢
      clear hT hM hC hx hxA hX hO hY1 hY hat hlen hne h0 hz HF cP
      go_enter Tryz.func143,Tryz.ntmps143
      go_wp2_with (go_at_call 173;refine cS.mono ?_;rintro e w1 ⟨rfl,T1,K1⟩)
      go_ret
      exact ⟨rfl,T1,K1⟩
  have g42:((s[0].toNat:Int) == 42)=false:=t42.trans (beq_eq_false_iff_ne.2 h42)
  have hz:Y.2=0:=by rw [← hY];unfold oneS;rw [hat,if_neg (fun h=>h92 (Option.some.inj h)),if_neg (fun h=>h10 (Option.some.inj h)),if_neg (fun h=>h96 (Option.some.inj h)),if_neg (fun h=>h91 (Option.some.inj h)),if_neg (fun h=>h42 (Option.some.inj h))]
  rw [if_pos hz] at hX2
  subst hX2
  show Calls _ _ _ _ (fun e w'=>e=.returned (.int .i64 (plainLen s.data.toList:Int))∧Tell q (glue A [⟨8,false,0,s.data.toList.take (plainLen s.data.toList)⟩]) w'∧Kl q W w')
  generalize glue A [⟨8,false,0,s.data.toList.take (plainLen s.data.toList)⟩]=A2 at HF ⊢
  generalize plainLen s.data.toList=n at HF cP p1 p2 ⊢
  have HT:Hid (Tell q A W):=hT
  clear hT hM hC hx hxA hX hO hY1 hY hat hlen hne hz h92 h10 h96 h91 h42 t92 t10 t96 t91 t42
  go_enter Tryz.func143,Tryz.ntmps143
  go_wp2_with (first | (go_at_call 174;refine (cP _).mono ?_;rintro e w2 ⟨rfl,b2⟩) | (go_at_call 62;refine (HF.out _ _ HT.out (Kl.refl _ _) b2).mono ?_;rintro e w3 ⟨rfl,T3,K3⟩))
  go_ret
  exact ⟨rfl,T3,K3⟩
end Go.Proofs.YtljcljipppjnoaaGreatDoor
namespace Go.Proofs.YtljcljipppjnoaaGreatDoor
open Go.RowKit Go.Shelf
theorem glue_behind (A acc m:List Ev) (hL:lastOk A):glue (A++acc) m=A++glue acc m:=by
  unfold glue
  split
  · next e =>
    split
    · exact add_behind A acc e.text (Or.inr hL)
    · rw [List.append_assoc]
  · rw [List.append_assoc]
theorem inl_text (l:List UInt8) (ins:Bool):∀ e ∈ inlineS l ins,e.text.length≤l.length:=(inlF_facts (l.length+1)).2 l ins
set_option maxRecDepth 100000 in
set_option maxHeartbeats 4000000 in
theorem part_next (q:Tl) (m:Int) (N:Nat) (hC:PartC q m N):PartC q m (N+1):=by
  intro s ins A W hN hs hT hM hL hlen hx
  have hb0:=hT.b0lt
  obtain ⟨R,hR⟩:∃ R,inlineS s.data.toList ins=R:=⟨_,rfl⟩
  have H0:Hid (inlFrom inlineS s.data.toList ins 0 []=R):=by show _=_;rw [← hR,inl_eq]
  rw [hR]
  have HC:Hid (PartC q m N):=hC
  have HL:Hid (lastOk A):=hL
  have HM:Hid (ML q m W):=hM
  have HTW:Hid (Tell q A W):=hT
  have HX:Hid (∀ e ∈ A++[],e.text.length+s.size≤1099511627776):=by rw [List.append_nil];exact hx
  clear hC hL hM hT hx hR
  go_enter Tryz.func124,Tryz.ntmps124
  go_wp2
  go_loopg [0] s.size (fun gk v0 wr=>∃ (r:ByteArray) (acc:List Ev),v0=.string r∧r.size≤gk∧r.size≤s.size∧Hid (Tell q (A++acc) wr∧Kl q W wr)∧Hid (inlFrom inlineS r.data.toList ins 0 acc=R)∧(A++acc).length+2 * r.size≤1099511627776∧Hid (∀ e ∈ A++acc,e.text.length+r.size≤1099511627776))
  case atStart=>exact ⟨s,[],rfl,Nat.le_refl _,Nat.le_refl _,⟨by rw [List.append_nil];exact HTW.out,Kl.refl _ _⟩,H0,by rw [List.append_nil];exact hlen,HX⟩
  case round =>
    clear H0 HX
    obtain ⟨r,acc,rfl,hrg,hrs,HT,HJ,hal,HX⟩:=hrel
    by_cases hr0:r.size=0
    · have hnil:r.data.toList=[]:=by rw [← List.length_eq_zero_iff,ba_len,hr0]
      have hem:r.toList.isEmpty=true:=by rw [Lib.toList_data,hnil];rfl
      have HF:Hid (acc=R):=by show _=_;rw [← HJ.out,hnil,inl_end]
      clear hnil HJ HX
      go_wp2
      go_end0
      rw [← HF.out]
      exact ⟨rfl,HT.out.1,HT.out.2⟩
    · have hne:r.data.toList ≠ []:=fun h=>hr0 (by rw [← ba_len,h];rfl)
      have hem:r.toList.isEmpty=false:=by
        rw [Lib.toList_data]
        cases h:r.data.toList with
        | nil=>exact absurd h hne
        | cons a b=>rfl
      obtain ⟨X,hX⟩:∃ X,ftS inlineS r.data.toList ins=X:=⟨_,rfl⟩
      have c1:=first_any q m N HC.out (A++acc) r ins wr HT.out.1 (HM.out.keep HTW.out HT.out.2) (by omega) (by omega) (by omega) hal HX.out X hX
      obtain ⟨f1,f2,f3,f4⟩:=ft_facts inlineS inl_len inl_text r.data.toList hne ins
      have hst:=ft_eq inlineS r.data.toList hne ins acc
      rw [hX] at f1 f2 f3 f4 hst
      rw [ba_len] at f2
      have hgl:=glue_len (A++acc) X.1
      have hgt:=glue_text (A++acc) X.1 (1099511627776 - r.size) X.2 (fun e he=>by have:=HX.out e he;omega) f4
      rw [glue_behind A acc X.1 HL.out] at c1 hgl hgt
      have hz:(r.extract X.2 r.size).size=r.size - X.2:=by rw [ByteArray.size_extract];omega
      have HJ2:Hid (inlFrom inlineS (r.extract X.2 r.size).data.toList ins 0 (glue acc X.1)=R):=by
        show _=_
        rw [drop_data,← hst]
        exact HJ.out
      have hxa:A.length+acc.length+2 * r.size≤1099511627776:=by rw [List.length_append] at hal;omega
      have hal2:(A++glue acc X.1).length+2 * (r.size - X.2)≤1099511627776:=by
        rw [List.length_append] at hgl hal
        rw [List.length_append] at hgl ⊢
        omega
      have HX2:Hid (∀ e ∈ A++glue acc X.1,e.text.length+(r.size - X.2)≤1099511627776):=fun e he=>by
        have:=hgt e he
        omega
      rw [← hz] at hal2 HX2
      have hrz:(r.extract X.2 r.size).size≤r.size - 1:=by omega
      have HK:Hid (Kl q W wr):=HT.out.2
      generalize glue acc X.1=acc2 at c1 HJ2 hal2 HX2
      generalize X.2=n at c1 HJ2 hal2 HX2 hrz f1 f2
      clear hgl hgt hst f3 f4 hX hne HJ HX HT hz hal
      obtain ⟨g,rfl⟩:∃ g,gk=g+1:=⟨gk - 1,by omega⟩
      go_wp2_with (go_at_call 143;refine c1.mono ?_;rintro e w1 ⟨rfl,T1,K1⟩)
      go_roundg g
      case measure=>omega
      case rel=>exact ⟨_,acc2,rfl,by omega,by omega,⟨T1,HK.out.trans K1⟩,HJ2,hal2,HX2⟩
theorem part_any (q:Tl) (m:Int) (N:Nat):PartC q m N:=by
  induction N with
  | zero=>exact fun s ins A W h=>absurd h (Nat.not_lt_zero _)
  | succ N ih=>exact part_next q m N ih
theorem lay3 (W:World) (x y z:Obj):(((W.alloc x).alloc y).alloc z).heap[W.heap.size]?=some x∧(((W.alloc x).alloc y).alloc z).heap[W.heap.size+1]?=some y∧(((W.alloc x).alloc y).alloc z).heap[W.heap.size+1+1]?=some z∧Below W.heap.size W (((W.alloc x).alloc y).alloc z):=by
  have e1:(W.alloc x).heap.size=W.heap.size+1:=by simp
  have e2:((W.alloc x).alloc y).heap.size=W.heap.size+1+1:=by simp
  refine ⟨?_,?_,?_,?_⟩
  · exact heap_al _ _ (by omega) (heap_al _ _ (by omega) (heap_alloc_new W x))
  · refine heap_al _ _ (by omega) ?_
    have:=heap_alloc_new (W.alloc x) y
    rw [e1] at this
    exact this
  · have:=heap_alloc_new ((W.alloc x).alloc y) z
    rw [e2] at this
    exact this
  · exact (((Below.refl _ W).alloc (Nat.le_refl _) _).alloc (by omega) _).alloc (by omega) _
set_option maxRecDepth 100000 in
set_option maxHeartbeats 4000000 in
theorem joined_any (kd:Nat) (hD:DoC kd) (b0:Nat) (W:World) (hT:Told b0 [] W) :
    Calls Tryz.prog 123 #[.func (.func kd) #[] #[.pointer (some ⟨b0,0,none⟩)]] W fun e w'=>∃ q:Tl,q.kd=kd∧q.b0=b0∧W.heap.size≤q.bT∧e=.returned (.tuple #[.func (.func 142) #[] #[.pointer (some ⟨q.bT,0,none⟩),.pointer (some ⟨q.bE,0,none⟩),.pointer (some ⟨q.bD,0,none⟩)],.func (.func 140) #[] #[.pointer (some ⟨q.bT,0,none⟩),.pointer (some ⟨q.bD,0,none⟩)]])∧Tell q [] w'∧Below W.heap.size W w':=by
  have hmf:∀ (fn:Fn) (first cap:Array Value) (w:World),(Instr.makeFunc fn first cap).run Tryz.prog w=.ok (.func fn first cap) w:=fun _ _ _ _=>rfl
  have hb0:=hT.lt
  obtain ⟨n0,n1,n2,m3⟩:=lay3 W (.cells #[.func (.func kd) #[] #[.pointer (some ⟨b0,0,none⟩)]] 116) (.cells #[.nilFunc] 1) (.cells #[.pointer none,.slice none 0 0] 191)
  have cN:=cell_of_one n1
  have fN:=free_of_one n1
  obtain ⟨y0,y1,y2,b3⟩:=lay3 W (.cells #[.func (.func kd) #[] #[.pointer (some ⟨b0,0,none⟩)]] 116) (.cells #[.func (.func 140) #[] #[.pointer (some ⟨W.heap.size+1+1,0,none⟩),.pointer (some ⟨W.heap.size,0,none⟩)]] 1) (.cells #[.pointer none,.slice none 0 0] 191)
  have cE:=cell_of_one y1
  have fE:=free_of_one y1
  have H1:Hid (Tell ⟨kd,b0,W.heap.size+1+1,W.heap.size+1,W.heap.size⟩ [] (((W.alloc (.cells #[.func (.func kd) #[] #[.pointer (some ⟨b0,0,none⟩)]] 116)).alloc (.cells #[.func (.func 140) #[] #[.pointer (some ⟨W.heap.size+1+1,0,none⟩),.pointer (some ⟨W.heap.size,0,none⟩)]] 1)).alloc (.cells #[.pointer none,.slice none 0 0] 191))) :=
    ⟨⟨[],[],by simp [textS],last_nil,hT.below b3,Or.inl ⟨Nat.le_refl _,_,y2,⟨rfl,Or.inl ⟨rfl,rfl⟩⟩,by intro h;cases h⟩⟩,by show b0 < W.heap.size+1+1;omega,y1,y0,hD⟩
  have H2:Hid (Below W.heap.size W (((W.alloc (.cells #[.func (.func kd) #[] #[.pointer (some ⟨b0,0,none⟩)]] 116)).alloc (.cells #[.func (.func 140) #[] #[.pointer (some ⟨W.heap.size+1+1,0,none⟩),.pointer (some ⟨W.heap.size,0,none⟩)]] 1)).alloc (.cells #[.pointer none,.slice none 0 0] 191))):=b3
  clear hT hD y0 y1 y2 b3 hb0 n0 n1 n2 m3
  go_enter Tryz.func123,Tryz.ntmps123
  go_wp2
  go_region
  go_wp2
  exact bodyPost_ret (v:=.tuple #[.func (.func 142) #[] #[.pointer (some ⟨W.heap.size+1+1,0,none⟩),.pointer (some ⟨W.heap.size+1,0,none⟩),.pointer (some ⟨W.heap.size,0,none⟩)],.func (.func 140) #[] #[.pointer (some ⟨W.heap.size+1+1,0,none⟩),.pointer (some ⟨W.heap.size,0,none⟩)]]) (by simp [results,Tryz.results123,go_sem,cE]) rfl ⟨⟨kd,b0,W.heap.size+1+1,W.heap.size+1,W.heap.size⟩,rfl,rfl,by show W.heap.size≤W.heap.size+1+1;omega,rfl,H1.out.below ((Below.refl _ _).drew),H2.out.drew⟩
set_option maxRecDepth 100000 in
set_option maxHeartbeats 4000000 in
theorem leaves_any (kd:Nat) (hD:DoC kd) (m:Int) (b0:Nat) (t:List UInt8) (W:World) (hT:Told b0 [] W) (ht:t.length≤16777216) (hg:6 < b0) (hm:W.cell? ⟨6,0,none⟩=some (.int .i64 m)) :
    Calls Tryz.prog 99 #[.string ⟨t.toArray⟩,.func (.func kd) #[] #[.pointer (some ⟨b0,0,none⟩)]] W fun e w'=>e=.returned (.tuple #[])∧Told b0 (inlineS t false) w'∧Kp b0 none W.heap.size W w':=by
  have hb0:=hT.lt
  have c1:=joined_any kd hD b0 W hT
  have hz:=size_of t
  have e1:(⟨t.toArray⟩:ByteArray).data.toList=t:=rfl
  have hil:=inl_len t false
  have HP:Hid (∀ q w1,q.b0=b0→W.heap.size≤q.bT→Tell q [] w1→Below W.heap.size W w1→Calls Tryz.prog 124 #[.string ⟨t.toArray⟩,.bool false,.func (.func 142) #[] #[.pointer (some ⟨q.bT,0,none⟩),.pointer (some ⟨q.bE,0,none⟩),.pointer (some ⟨q.bD,0,none⟩)]] w1 fun e w'=>e=.returned (.tuple #[])∧Tell q (inlineS t false) w'∧Kp b0 none W.heap.size W w'):=by
    intro q w1 hq hbT hT1 b1
    have hM1:ML q m w1:=⟨by rw [hq];exact hg,(b1.cell (p:=⟨6,0,none⟩) (by show 6 < W.heap.size;omega)).trans hm⟩
    have h:=part_any q m ((⟨t.toArray⟩:ByteArray).size+1) ⟨t.toArray⟩ false [] w1 (Nat.lt_succ_self _) (by omega) hT1 hM1 last_nil (by simp;omega) (fun e he=>by cases he)
    rw [e1,List.nil_append] at h
    refine h.mono ?_
    rintro e w2 ⟨rfl,T2,K2⟩
    refine ⟨rfl,T2,(Kp.below b1 hb0).trans ⟨K2.os,K2.tape,K2.output,K2.size,fun b hb _ ho=>?_,fun b hb ho=>?_⟩⟩
    · rw [← hq] at ho
      exact K2.block b (Nat.lt_of_lt_of_le hb b1.size) (Or.inl (by omega)) ho
    · rw [← hq] at ho ⊢
      exact K2.own b (Nat.lt_of_lt_of_le hb b1.size) ho
  have HE:Hid (∀ q w2,q.b0=b0→W.heap.size≤q.bT→Tell q (inlineS t false) w2→Kp b0 none W.heap.size W w2→Calls Tryz.prog 140 #[.pointer (some ⟨q.bT,0,none⟩),.pointer (some ⟨q.bD,0,none⟩)] w2 fun e w'=>e=.returned (.tuple #[])∧Told b0 (inlineS t false) w'∧Kp b0 none W.heap.size W w'):=by
    intro q w2 hq hbT hT2 hK2
    obtain ⟨p,o,ha,_,hTo,hH⟩:=hT2.st
    have hol:o.length≤(inlineS t false).length:=by rw [ha];simp
    refine (end_any q hT2.dc p o w2 hTo hH hT2.lt hT2.d (by omega)).mono ?_
    rintro e w3 ⟨rfl,T3,_,K3⟩
    rw [← ha,hq] at T3
    refine ⟨rfl,T3,hK2.trans ⟨K3.os,K3.tape,K3.output,K3.size,fun b hb _ ho=>?_,fun b hb ho=>?_⟩⟩
    · rw [← hq] at ho
      exact K3.block b (Nat.lt_of_lt_of_le hb hK2.size) (Or.inl (by omega)) ho
    · rw [← hq] at ho ⊢
      exact K3.own b (Nat.lt_of_lt_of_le hb hK2.size) ho
  generalize inlineS t false=R at HP HE ⊢
  clear hT hm e1 hil hg hD
  have ek1:∀ args w,(callFunc 140 args).run Tryz.prog w=.ok (.enter 140 args) w:=enters_of Tryz.func140 (by kernel_rfl) rfl
  go_enter Tryz.func99,Tryz.ntmps99
  go_wp2_with (first
    | (go_at_call 123;refine c1.mono ?_;rintro e w1 ⟨q,hqk,hq,hbT,rfl,T1,b1⟩)
    | (go_at_call 124;refine (HP.out q w1 hq hbT T1 b1).mono ?_;rintro e w2 ⟨rfl,T2,K2⟩)
    | (go_at_call 140;refine (HE.out q w2 hq hbT T2 K2).mono ?_;rintro e w3 ⟨rfl,T3,K3⟩))
  go_end0
  exact ⟨rfl,T3,K3⟩
theorem leaves_each (m:Int):ListsC 99 (fun t=>inlineS t false) 6 m :=
  fun b0 t W hT ht hg hm=>leaves_any 82 do_listed m b0 t W hT ht hg hm
def docIn (s:ByteArray):List Ev:=inlineS (reg s) false
set_option maxRecDepth 100000 in
set_option maxHeartbeats 1000000 in
theorem dInline_any (s:ByteArray) (m:Int) (W:World) (hs:s.size≤1048576) (hm:W.cell? ⟨6,0,none⟩=some (.int .i64 m)) :
    Calls Tryz.prog 78 #[.string s] W fun e w'=>∃ v,e=.returned v∧w'.ownsRow W.heap.size 92 4 v (docIn s).length (evCs (docIn s))∧Below W.heap.size W w':=by
  have hc:Calls Tryz.prog 58 #[.string s,.func (.func 99) #[] #[]] W fun e w'=>∃ v,e=.returned v∧w'.ownsRow W.heap.size 92 4 v (docIn s).length (evCs (docIn s))∧Below W.heap.size W w' :=
    listed_any 99 (enters_of Tryz.func99 (by kernel_rfl) rfl) (fun t=>inlineS t false) 6 m (leaves_each m) s W hs hm
  generalize docIn s=bs at hc ⊢
  go_enter Tryz.func78,Tryz.ntmps78
  go_wp2_with (go_at_call 58;refine hc.mono ?_;rintro e w3 ⟨v,rfl,hown,hb⟩)
  go_ret
  exact ⟨v,rfl,hown,hb⟩
end Go.Proofs.YtljcljipppjnoaaGreatDoor
namespace Go.Proofs.YtljcljipppjnoaaGreatDoor
open Go.RowKit Go.Shelf
theorem docIn_len (s:ByteArray) (hs:s.size≤1048576):(docIn s).length≤1099511627776:=by
  have h1:=inl_len (reg s) false
  have h2:=reg_len s
  unfold docIn
  omega
set_option maxRecDepth 100000 in
theorem pInline_any (s:ByteArray) (m:Int) (W:World) (hs:s.size≤1048576) (hm:W.cell? ⟨6,0,none⟩=some (.int .i64 m)) :
    Calls Tryz.prog 56 #[.string s] W fun e w'=>∃ v,e=.returned v∧w'.ownsRow W.heap.size 39 4 v (docIn s).length (evCs (docIn s))∧Below W.heap.size W w':=by
  have c1:=dInline_any s m W hs hm
  have hl:=docIn_len s hs
  have c2:=fun v w (hB:W.heap.size≤w.heap.size) (h:w.ownsRow W.heap.size 92 4 v (docIn s).length (evCs (docIn s)))=>pevents_any W.heap.size v (docIn s) w hB h hl
  generalize docIn s=bs at c1 c2 hl ⊢
  go_enter Tryz.func56,Tryz.ntmps56
  go_wp2_with (first | (go_at_call 78;refine c1.mono ?_;rintro e w1 ⟨v,rfl,own1,b1⟩) | (go_at_call 34;refine (c2 v w1 b1.size own1).mono ?_;rintro e w2 ⟨v2,rfl,own2,b2⟩))
  go_ret
  exact ⟨v2,rfl,Joins.ownsRow_le own2 b1.size,b1.trans b2⟩
set_option maxRecDepth 100000 in
set_option maxHeartbeats 1000000 in
theorem inlined_any (s:ByteArray) (m:Int) (W:World) (hm:W.cell? ⟨6,0,none⟩=some (.int .i64 m)) :
    Calls Tryz.prog 28 #[.string s] W fun e w'=>e=.returned (.bool true)∧Below W.heap.size W w':=by
  by_cases hs:s.size≤1048576
  · have hk:decide ((1048576:Int) < (s.size:Int))=false:=by simp;omega
    have c1:=pInline_any s m W hs hm
    have c2:=fun w=>regular_any s w (by omega)
    have hrl:=reg_len s
    have c3:=fun w=>rinl_doc ⟨(reg s).toArray⟩ false w (by rw [size_of];omega)
    have e3:(⟨(reg s).toArray⟩:ByteArray).data.toList=reg s:=rfl
    have hd:inlineS (reg s) false=docIn s:=rfl
    rw [e3,hd] at c3
    have hlen:=docIn_len s hs
    have c5:=fun B1 B2 v1 v2 w o1 o2=>same_any B1 B2 v1 v2 (docIn s) w hlen o1 o2
    generalize docIn s=bs at c1 c3 c5 hlen hd
    generalize (reg s).toArray=rg at c2 c3
    clear hrl e3 hd hs
    go_enter Tryz.func28,Tryz.ntmps28
    go_wp2_with (first
      | (go_at_call 56;refine c1.mono ?_;rintro e w1 ⟨v1,rfl,own1,b1⟩)
      | (go_at_call 13;refine (c2 _).mono ?_;rintro e w2 ⟨rfl,b2⟩)
      | (go_at_call 57;refine (c3 _).mono ?_;rintro e w4 ⟨v4,rfl,own4,b4⟩)
      | (go_at_call 16;refine (c5 _ _ v1 v4 _ (own_below (own_below own1 b2 (Nat.le_refl _)) b4 (Nat.le_refl _)) own4).mono ?_;rintro e w5 ⟨rfl,b5⟩))
    go_ret
    have s1:=b1.size
    have s2:=b2.size
    have s4:=b4.size
    exact ⟨rfl,((b1.trans (b2.mono (by omega))).trans (b4.mono (by omega))).trans (b5.mono (by omega))⟩
  · have hk:decide ((1048576:Int) < (s.size:Int))=true:=by simp;omega
    go_enter Tryz.func28,Tryz.ntmps28
    go_wp2
    go_ret
    exact ⟨rfl,Below.refl _ _⟩
end Go.Proofs.YtljcljipppjnoaaGreatDoor
