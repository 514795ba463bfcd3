import Derived.Test.YtljcljipppjnoaaGreatDoorJA25
import Derived.Test.YtljcljipppjnoaaGreatDoorJA39
import Derived.Test.YtljcljipppjnoaaGreatDoorJA40
namespace Go.Proofs.YtljcljipppjnoaaGreatDoor
open Go.RowKit Go.Shelf
theorem small_any (v:Nat) (hv:v≤3) (w:World) :
    Calls Tryz.prog 218 #[.int .i64 (v:Int)] w fun e w'=>e=.returned (.string ⟨#[UInt8.ofNat (48+v)]⟩)∧w'=w:=by
  have hq:v=0∨v=1∨v=2∨v=3:=by omega
  rcases hq with rfl | rfl | rfl | rfl
  all_goals
    go_enter Tryz.func218,Tryz.ntmps218
    go_wp2
    go_ret
    exact ⟨rfl,rfl⟩
theorem fmt_any (v:Nat) (hv:v≤3) (w:World) :
    Calls Tryz.prog 191 #[.int .i64 (v:Int),.int .i64 10] w fun e w'=>e=.returned (.string ⟨#[UInt8.ofNat (48+v)]⟩)∧w'=w:=by
  have c1:=fun W=>small_any v hv W
  have h0:(0:Int)≤v:=by omega
  have h1:(v:Int) < 100:=by omega
  generalize UInt8.ofNat (48+v)=x at c1 ⊢
  go_enter Tryz.func191,Tryz.ntmps191
  go_wp2_with (go_at_call 218;refine (c1 _).mono ?_;rintro e w' ⟨rfl,hw⟩;rw [hw];clear hw)
  go_ret
  exact ⟨rfl,rfl⟩
theorem itoa0_any (v:Nat) (hv:v≤3) (w:World) :
    Calls Tryz.prog 167 #[.int .i64 (v:Int)] w fun e w'=>e=.returned (.string ⟨#[UInt8.ofNat (48+v)]⟩)∧w'=w:=by
  have c1:=fun W=>fmt_any v hv W
  generalize UInt8.ofNat (48+v)=x at c1 ⊢
  go_enter Tryz.func167,Tryz.ntmps167
  go_wp2_with (go_at_call 191;refine (c1 _).mono ?_;rintro e w' ⟨rfl,hw⟩;rw [hw];clear hw)
  go_ret
  exact ⟨rfl,rfl⟩
theorem itoa_any (v:Nat) (hv:v≤3) (w:World) :
    Calls Tryz.prog 137 #[.int .i64 (v:Int)] w fun e w'=>e=.returned (.string ⟨#[UInt8.ofNat (48+v)]⟩)∧w'=w:=by
  have c1:=fun W=>itoa0_any v hv W
  generalize UInt8.ofNat (48+v)=x at c1 ⊢
  go_enter Tryz.func137,Tryz.ntmps137
  go_wp2_with (go_at_call 167;refine (c1 _).mono ?_;rintro e w' ⟨rfl,hw⟩;rw [hw];clear hw)
  go_ret
  exact ⟨rfl,rfl⟩
theorem cell_new4_1 (w:World) (a b c d:Value) (T:TypeId):(w.alloc (.cells #[a,b,c,d] T)).cell? ⟨w.heap.size,1,none⟩=some b:=by
  rw [Lib.cell_of_heap (heap_alloc_new w (.cells #[a,b,c,d] T))]
  rfl
def TagsOut (ev:Ev) (e:Ending):Prop:=∃ b d:List UInt8,e=.returned (.tuple #[.string ⟨b.toArray⟩,.string ⟨d.toArray⟩])∧htmlS ev=if ev.fin=true then d else b
set_option maxRecDepth 100000 in
set_option maxHeartbeats 4000000 in
theorem tags_any (ev:Ev) (hk:0≤ev.kind∧ev.kind≤7) (hv:0≤ev.level∧ev.level≤3) (hl:ev.text.length≤1073741824) (w:World) :
    Calls Tryz.prog 117 #[.agg #[.int .i64 ev.kind,.bool ev.fin,.int .i64 ev.level,.string ⟨ev.text.toArray⟩]] w fun e w'=>TagsOut ev e∧Below w.heap.size w w':=by
  obtain ⟨k,f,v,t⟩:=ev
  simp only at hk hv hl
  have hz:=size_of t
  have hq:k=0∨k=1∨k=2∨k=3∨k=4∨k=5∨k=6∨k=7:=by omega
  rcases hq with rfl | rfl | rfl | rfl | rfl | rfl | rfl | rfl
  case inr.inl =>
    obtain ⟨n,rfl⟩:∃ n:Nat,v=n:=⟨v.toNat,by omega⟩
    have hn:n=0∨n=1∨n=2∨n=3:=by omega
    have c1:=fun W=>itoa_any n (by omega) W
    rcases hn with rfl | rfl | rfl | rfl
    all_goals
      go_enter Tryz.func117,Tryz.ntmps117
      go_wp2_with (go_at_call 137;refine (c1 _).mono ?_;rintro e w' ⟨rfl,hw⟩;rw [hw];clear hw)
      go_ret2
      refine ⟨⟨_,_,rfl,?_⟩,(Below.refl _ w).alloc (Nat.le_refl _) _⟩
      cases f <;> rfl
  case inr.inr.inr.inr.inr.inr.inr =>
    have c1:=fun W=>adr_any ⟨t.toArray⟩ W (by rw [hz];omega)
    have hwl:=where_len t
    have hwz:=size_of (whereL t)
    have HB:Hid (htmlS ⟨7,f,v,t⟩=if f=true then [60,47,97,62] else [60,97,32,104,114,101,102,61,34]++whereL t++[34,62]):=by
      show _=_
      simp [htmlS]
    rw [show (⟨t.toArray⟩:ByteArray).data.toList=t by simp] at c1
    generalize whereL t=wt at c1 hwl hwz HB
    go_enter Tryz.func117,Tryz.ntmps117
    go_wp2_with (go_at_call 138;refine (c1 _).mono ?_;rintro e w' ⟨rfl,hw⟩)
    go_ret2
    refine ⟨⟨[60,97,32,104,114,101,102,61,34]++wt++[34,62],[60,47,97,62],?_,HB.out⟩,((Below.refl _ w).alloc (Nat.le_refl _) _).trans (hw.mono (by simp))⟩
    rw [← ba_app,← ba_app]
    rfl
  all_goals
    go_enter Tryz.func117,Tryz.ntmps117
    go_wp2
    go_ret2
    refine ⟨⟨_,_,rfl,?_⟩,(Below.refl _ w).alloc (Nat.le_refl _) _⟩
    cases f <;> rfl
set_option maxRecDepth 100000 in
set_option maxHeartbeats 4000000 in
theorem one_any (ev:Ev) (hk:0≤ev.kind∧ev.kind≤11) (hv:0≤ev.level∧ev.level≤3) (hu:Utf ev.text) (hl:ev.text.length≤1073741824) (w:World) :
    Calls Tryz.prog 97 #[.agg #[.int .i64 ev.kind,.bool ev.fin,.int .i64 ev.level,.string ⟨ev.text.toArray⟩]] w fun e w'=>e=.returned (.string ⟨(htmlS ev).toArray⟩)∧Below w.heap.size w w':=by
  by_cases h7:ev.kind≤7
  · have c1:∀ W,Calls Tryz.prog 117 #[.agg #[.int .i64 ev.kind,.bool ev.fin,.int .i64 ev.level,.string ⟨ev.text.toArray⟩]] W fun e w'=>∃ b d:List UInt8,e=.returned (.tuple #[.string ⟨b.toArray⟩,.string ⟨d.toArray⟩])∧Hid (htmlS ev=if ev.fin=true then d else b)∧Below W.heap.size W w':=by
      intro W
      refine (tags_any ev ⟨hk.1,h7⟩ hv hl W).mono ?_
      rintro e w' ⟨⟨b,d,h1,h2⟩,h3⟩
      exact ⟨b,d,h1,h2,h3⟩
    have g8:((ev.kind:Int) == 8)=false:=by rw [beq_eq_false_iff_ne];omega
    have g9:((ev.kind:Int) == 9)=false:=by rw [beq_eq_false_iff_ne];omega
    have g10:((ev.kind:Int) == 10)=false:=by rw [beq_eq_false_iff_ne];omega
    have g11:((ev.kind:Int) == 11)=false:=by rw [beq_eq_false_iff_ne];omega
    obtain ⟨R,hR⟩:∃ R,htmlS ev=R:=⟨_,rfl⟩
    rw [hR]
    have HR:Hid (htmlS ev=R):=hR
    clear hR
    obtain ⟨f,hf⟩:∃ f,ev.fin=f:=⟨_,rfl⟩
    rw [hf] at c1 ⊢
    cases f with
    | true =>
      go_enter Tryz.func97,Tryz.ntmps97
      go_wp2_with (go_at_call 117;refine (c1 _).mono ?_;rintro e w' ⟨b,d,rfl,HB,hw⟩;have x1:=(hw.cell (p:=⟨w.heap.size,1,none⟩) (by simp)).trans (cell_new4_1 w _ _ _ _ _))
      go_ret
      refine ⟨?_,((Below.refl _ w).alloc (Nat.le_refl _) _).trans (hw.mono (by simp))⟩
      rw [← HR.out,HB.out]
      rfl
    | false =>
      go_enter Tryz.func97,Tryz.ntmps97
      go_wp2_with (go_at_call 117;refine (c1 _).mono ?_;rintro e w' ⟨b,d,rfl,HB,hw⟩;have x1:=(hw.cell (p:=⟨w.heap.size,1,none⟩) (by simp)).trans (cell_new4_1 w _ _ _ _ _))
      go_ret
      refine ⟨?_,((Below.refl _ w).alloc (Nat.le_refl _) _).trans (hw.mono (by simp))⟩
      rw [← HR.out,HB.out]
      rfl
  · obtain ⟨k,f,v,t⟩:=ev
    simp only at hk hv hl hu h7 ⊢
    have hz:=size_of t
    have c1:=fun W=>hesc_any ⟨t.toArray⟩ (by simpa using hu) W (by rw [hz];omega)
    rw [show (⟨t.toArray⟩:ByteArray).data.toList=t by simp] at c1
    have hel:=esc_len t
    have hez:=size_of (escL t)
    have hq:k=8∨k=9∨k=10∨k=11:=by omega
    have HB8:Hid (htmlS ⟨8,f,v,t⟩=escL t):=by show _=_;simp [htmlS]
    have HB9:Hid (htmlS ⟨9,f,v,t⟩=[60,99,111,100,101,62]++escL t++[60,47,99,111,100,101,62]):=by show _=_;simp [htmlS]
    have HB10:Hid (htmlS ⟨10,f,v,t⟩=[10]):=by show _=_;simp [htmlS]
    have HB11:Hid (htmlS ⟨11,f,v,t⟩=[60,98,114,62,10]):=by show _=_;simp [htmlS]
    generalize escL t=et at c1 hel hez HB8 HB9
    rcases hq with rfl | rfl | rfl | rfl
    · obtain ⟨R,hR⟩:∃ R,htmlS ⟨8,f,v,t⟩=R:=⟨_,rfl⟩
      rw [hR] at HB8 ⊢
      clear hR HB9 HB10 HB11
      go_enter Tryz.func97,Tryz.ntmps97
      go_wp2_with (go_at_call 116;refine (c1 _).mono ?_;rintro e w' ⟨rfl,hw⟩)
      go_ret
      exact ⟨by rw [HB8.out];rfl,((Below.refl _ w).alloc (Nat.le_refl _) _).trans (hw.mono (by simp))⟩
    · obtain ⟨R,hR⟩:∃ R,htmlS ⟨9,f,v,t⟩=R:=⟨_,rfl⟩
      rw [hR] at HB9 ⊢
      clear hR HB8 HB10 HB11
      go_enter Tryz.func97,Tryz.ntmps97
      go_wp2_with (go_at_call 116;refine (c1 _).mono ?_;rintro e w' ⟨rfl,hw⟩)
      go_ret
      refine ⟨?_,((Below.refl _ w).alloc (Nat.le_refl _) _).trans (hw.mono (by simp))⟩
      rw [HB9.out,← ba_app,← ba_app]
      rfl
    · obtain ⟨R,hR⟩:∃ R,htmlS ⟨10,f,v,t⟩=R:=⟨_,rfl⟩
      rw [hR] at HB10 ⊢
      clear hR HB8 HB9 HB11 c1
      go_enter Tryz.func97,Tryz.ntmps97
      go_wp2
      go_ret
      exact ⟨by rw [HB10.out];rfl,(Below.refl _ w).alloc (Nat.le_refl _) _⟩
    · obtain ⟨R,hR⟩:∃ R,htmlS ⟨11,f,v,t⟩=R:=⟨_,rfl⟩
      rw [hR] at HB11 ⊢
      clear hR HB8 HB9 HB10 c1
      go_enter Tryz.func97,Tryz.ntmps97
      go_wp2
      go_ret
      exact ⟨by rw [HB11.out];rfl,(Below.refl _ w).alloc (Nat.le_refl _) _⟩
end Go.Proofs.YtljcljipppjnoaaGreatDoor
