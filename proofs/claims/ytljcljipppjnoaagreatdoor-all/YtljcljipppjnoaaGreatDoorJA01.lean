import Derived.Test.YtljcljipppjnoaaGreatDoorRows
import Derived.WalkKit
import Derived.WalkSpells
import Derived.WalkLawsBesides
import Derived.Handy
import Derived.Lib.Strings
import Derived.Deep.RegionWith
import Derived.Deep.LoopGhost
import Derived.Deep.AppendSrc
import Derived.Lib.SmallJoins
namespace Go.Proofs.YtljcljipppjnoaaGreatDoor
open Go.RowKit
def isBl (c:UInt8):Bool:=c == 32 || c == 9
def blankS (s:ByteArray):Bool:=s.data.toList.all isBl
def beginsS (s w:ByteArray):Bool:=w.data.toList.isPrefixOf s.data.toList
theorem take_snoc (s:ByteArray) (k:Nat) (h:k < s.size):s.data.toList.take (k+1)=s.data.toList.take k++[s[k]]:=by
  rw [List.take_succ_eq_append_getElem (by simpa using h)];rfl
theorem drop_cons (s:ByteArray) (k:Nat) (h:k < s.size):s.data.toList.drop k=s[k] :: s.data.toList.drop (k+1):=by
  rw [List.drop_eq_getElem_cons (by simpa using h)];rfl
theorem u8_eq (c d:UInt8):((c.toNat:Int) == (d.toNat:Int))=(c == d):=by
  rw [Bool.eq_iff_iff,beq_iff_eq,beq_iff_eq]
  constructor
  · intro h
    exact UInt8.toNat_inj.1 (by omega)
  · intro h
    rw [h]
theorem rblank_any (c:UInt8) (w:World) :
    Calls Tryz.prog 63 #[.int .u8 c.toNat] w fun e w'=>e=.returned (.bool (isBl c))∧w'=w:=by
  by_cases h1:c=32
  · subst h1
    go_enter Tryz.func63,Tryz.ntmps63
    go_wp2
    go_ret
    exact ⟨rfl,rfl⟩
  · have k1:((c.toNat:Int) == 32)=false:=by
      have:=u8_eq c 32
      rw [beq_eq_false_iff_ne.2 h1] at this
      exact this
    have hb:isBl c=(c == 9):=by
      have:(c == 32)=false:=by rw [beq_eq_false_iff_ne];exact h1
      simp [isBl,this]
    have k2:((c.toNat:Int) == 9)=(c == 9):=u8_eq c 9
    have H:Hid (isBl c=(c == 9)):=hb
    clear hb h1
    go_enter Tryz.func63,Tryz.ntmps63
    go_wp2
    go_ret
    rw [H.out]
    exact ⟨rfl,rfl⟩
set_option maxHeartbeats 400000 in
theorem rBlank_any (s:ByteArray) (w:World) (hs:s.size≤4611686018427387904) :
    Calls Tryz.prog 36 #[.string s] w fun e w'=>e=.returned (.bool (blankS s))∧w'=w:=by
  go_enter Tryz.func36,Tryz.ntmps36
  go_wp2
  go_loop [3] (fun i=>∃ k:Nat,k≤s.size∧i=.int .i64 k∧Hid ((s.data.toList.take k).all isBl=true)) (fun i=>s.size - (intOf i).toNat)
  case atStart=>exact ⟨0,Nat.zero_le _,rfl,(by show _=_;simp)⟩
  case round =>
    obtain ⟨k,hk,rfl,ha⟩:=hrel
    by_cases hlt:k < s.size
    · cases hb:isBl s[k] with
      | true =>
        have hc:=fun W=>rblank_any s[k] W
        rw [hb] at hc
        have HB:Hid (isBl s[k]=true):=hb
        clear hb
        go_wp2_with (go_at_call 63;refine (hc _).mono ?_;rintro e w' ⟨rfl,rfl⟩)
        go_round
        case rel =>
          refine ⟨k+1,by omega,by go_num,?_⟩
          show _=_
          rw [take_snoc s k hlt,List.all_append,ha.out]
          simp [HB.out]
        case measure=>simp [intOf];omega
      | false =>
        have hc:=fun W=>rblank_any s[k] W
        rw [hb] at hc
        have hno:Hid (blankS s=false):=by
          show _=_
          unfold blankS
          rw [← List.take_append_drop k s.data.toList,List.all_append,drop_cons s k hlt]
          simp [hb]
        clear hb
        go_wp2_with (go_at_call 63;refine (hc _).mono ?_;rintro e w' ⟨rfl,rfl⟩)
        go_ret
        rw [hno.out]
        exact ⟨rfl,rfl⟩
    · go_wp2
      go_ret
      have:blankS s=true:=by
        unfold blankS
        have:=ha.out
        rwa [List.take_of_length_le (by simp;omega)] at this
      rw [this]
      exact ⟨rfl,rfl⟩
theorem list_of (s:ByteArray):s.toList=s.data.toList:=by
  have h:=Lib.extract_toList s 0 s.size
  have e:s.extract 0 s.size=s:=by
    apply ByteArray.ext
    rw [ByteArray.data_extract]
    exact Array.extract_size
  rw [e] at h
  rw [h,List.drop_zero,Nat.sub_zero,List.take_of_length_le]
  rw [Array.length_toList]
  exact Nat.le_refl _
theorem begins_eq (s p:ByteArray):((s.extract 0 p.size).toList == p.toList)=beginsS s p:=by
  rw [Lib.extract_toList,list_of,List.drop_zero,Nat.sub_zero,Bool.eq_iff_iff,beq_iff_eq]
  unfold beginsS
  rw [List.isPrefixOf_iff_prefix,List.prefix_iff_eq_take]
  have hl:p.data.toList.length=p.size:=by rw [Array.length_toList];rfl
  rw [hl]
  exact ⟨Eq.symm,Eq.symm⟩
theorem begins_short (s p:ByteArray) (h:¬ p.size≤s.size):beginsS s p=false:=by
  rw [Bool.eq_false_iff]
  intro h1
  unfold beginsS at h1
  rw [List.isPrefixOf_iff_prefix] at h1
  have:=h1.length_le
  rw [Array.length_toList,Array.length_toList] at this
  exact h this
set_option maxHeartbeats 400000 in
theorem begins_any (s p:ByteArray) (w:World) :
    Calls Tryz.prog 64 #[.string s,.string p] w fun e w'=>e=.returned (.bool (beginsS s p))∧w'=w:=by
  by_cases h:p.size≤s.size
  · go_enter Tryz.func64,Tryz.ntmps64
    go_wp2
    go_ret
    exact ⟨by rw [← begins_eq s p];rfl,rfl⟩
  · have HN:Hid (beginsS s p=false):=begins_short s p h
    go_enter Tryz.func64,Tryz.ntmps64
    go_wp2
    go_ret
    exact ⟨by rw [HN.out];rfl,rfl⟩
def itemS (s:ByteArray):Bool:=(s.toList == [45]) || beginsS s ⟨#[45,32]⟩ || beginsS s ⟨#[45,9]⟩
set_option maxHeartbeats 400000 in
theorem ritem_any (s:ByteArray) (w:World) :
    Calls Tryz.prog 65 #[.string s] w fun e w'=>e=.returned (.bool (itemS s))∧w'=w:=by
  have c1:=fun W=>begins_any s ⟨#[45,32]⟩ W
  have c2:=fun W=>begins_any s ⟨#[45,9]⟩ W
  cases h1:(s.toList == [45]) with
  | true =>
    have H:Hid (itemS s=true):=by show _=_;simp [itemS,h1]
    go_enter Tryz.func65,Tryz.ntmps65
    go_wp2
    go_ret
    exact ⟨by rw [H.out];rfl,rfl⟩
  | false =>
    cases h2:beginsS s ⟨#[45,32]⟩ with
    | true =>
      have H:Hid (itemS s=true):=by show _=_;simp [itemS,h2]
      rw [h2] at c1
      clear h2 c2
      go_enter Tryz.func65,Tryz.ntmps65
      go_wp2_with (go_at_call 64;refine (c1 _).mono ?_;rintro e w' ⟨rfl,rfl⟩)
      go_ret
      exact ⟨by rw [H.out];rfl,rfl⟩
    | false =>
      have H:Hid (itemS s=beginsS s ⟨#[45,9]⟩):=by show _=_;simp [itemS,h1,h2]
      rw [h2] at c1
      clear h2
      generalize beginsS s ⟨#[45,9]⟩=b3 at c2 H
      go_enter Tryz.func65,Tryz.ntmps65
      go_wp2_with (first | (go_at_call_of 64 (Value.string { data:=#[45,32] });refine (c1 _).mono ?_;rintro e w' ⟨rfl,rfl⟩) | (go_at_call_of 64 (Value.string { data:=#[45,9] });refine (c2 _).mono ?_;rintro e w' ⟨rfl,rfl⟩))
      go_ret
      exact ⟨by rw [H.out];rfl,rfl⟩
def trimL (l:List UInt8):List UInt8:=((l.dropWhile isBl).reverse.dropWhile isBl).reverse
def trimS (s:ByteArray):ByteArray:=⟨(trimL s.data.toList).toArray⟩
theorem ext_tail (s:ByteArray) (h:0 < s.size):s.data.toList=s[0] :: (s.extract 1 s.size).data.toList:=by
  have:=drop_cons s 0 h
  rw [List.drop_zero] at this
  rw [this,Lib.extract_data,List.take_of_length_le]
  rw [List.length_drop,Array.length_toList]
  exact Nat.le_refl _
theorem ext_init (s:ByteArray) (h:0 < s.size):s.data.toList=(s.extract 0 (s.size - 1)).data.toList++[s[s.size - 1]]:=by
  have:=take_snoc s (s.size - 1) (by omega)
  rw [show s.size - 1+1=s.size by omega,List.take_of_length_le (by rw [Array.length_toList];exact Nat.le_refl _)] at this
  rw [this,Lib.extract_data]
  simp
theorem u8_bl (c:UInt8):isBl c=(((c.toNat:Int) == 32) || ((c.toNat:Int) == 9)):=by
  have h1:=u8_eq c 32
  have h2:=u8_eq c 9
  unfold isBl
  rw [← h1,← h2]
  rfl
set_option maxHeartbeats 1000000 in
theorem rtrim_any (s:ByteArray) (w:World) (hs:s.size≤4611686018427387904) :
    Calls Tryz.prog 40 #[.string s] w fun e w'=>e=.returned (.string (trimS s))∧w'=w:=by
  go_enter Tryz.func40,Tryz.ntmps40
  go_wp2
  go_loopg [0] s.size (fun gk t wr=>∃ r:ByteArray,t=.string r∧r.size≤gk∧wr=w∧Hid (r.data.toList.dropWhile isBl=s.data.toList.dropWhile isBl)∧r.size≤s.size)
  case atStart=>exact ⟨s,rfl,Nat.le_refl _,rfl,(by show _=_;rfl),Nat.le_refl _⟩
  case round =>
    obtain ⟨r,rfl,hrk,rfl,hr,hrs⟩:=hrel
    by_cases hgo:∃ h0:0 < r.size,isBl (r[0]'h0)=true
    · obtain ⟨h0,hb0⟩:=hgo
      have hb:=u8_bl r[0]
      rw [hb0] at hb
      have hz:(r.extract 1 r.size).size=r.size - 1:=by simp
      have HN:Hid ((r.extract 1 r.size).data.toList.dropWhile isBl=s.data.toList.dropWhile isBl∧(r.extract 1 r.size).size=r.size - 1):=by
        refine ⟨?_,hz⟩
        rw [← hr.out]
        conv=>rhs;rw [ext_tail r h0]
        rw [List.dropWhile_cons,if_pos hb0]
      clear hb0 hz
      by_cases k1:((r[0].toNat:Int) == 32)=true
      · clear hb
        go_wp2
        go_roundg (r.size - 1)
        case measure=>omega
        case rel=>exact ⟨_,rfl,by rw [HN.out.2];exact Nat.le_refl _,rfl,HN.out.1,by rw [HN.out.2];omega⟩
      · have k1':((r[0].toNat:Int) == 32)=false:=by simpa using k1
        have k2:((r[0].toNat:Int) == 9)=true:=by rw [k1'] at hb;simpa using hb.symm
        clear hb k1
        go_wp2
        go_roundg (r.size - 1)
        case measure=>omega
        case rel=>exact ⟨_,rfl,by rw [HN.out.2];exact Nat.le_refl _,rfl,HN.out.1,by rw [HN.out.2];omega⟩
    · have HR:Hid (r.data.toList=s.data.toList.dropWhile isBl):=by
        show _=_
        rw [← hr.out]
        by_cases h0:0 < r.size
        · conv=>rhs;rw [ext_tail r h0]
          rw [List.dropWhile_cons,if_neg (fun hh=>hgo ⟨h0,hh⟩),← ext_tail r h0]
        · have:r.data.toList=[]:=by
            rw [← List.length_eq_zero_iff,Array.length_toList]
            show r.size=0
            omega
          rw [this]
          rfl
      have hgo':∀ h0:0 < r.size,((r[0].toNat:Int) == 32)=false∧((r[0].toNat:Int) == 9)=false:=by
        intro h0
        have hb:=u8_bl r[0]
        rw [Bool.eq_false_iff.2 (fun hh=>hgo ⟨h0,hh⟩)] at hb
        simpa using hb.symm
      have HG:Hid _:=hgo'
      clear hgo hgo' hr hrk
      by_cases h0:0 < r.size
      · obtain ⟨k1,k2⟩:=HG.out h0
        clear HG
        go_wp2
        clear k1 k2
        go_loopg [0] r.size (fun gk t wr2=>∃ q:ByteArray,t=.string q∧q.size≤gk∧wr2=wr∧Hid (q.data.toList.reverse.dropWhile isBl=(s.data.toList.dropWhile isBl).reverse.dropWhile isBl)∧q.size≤s.size)
        case atStart=>exact ⟨r,rfl,Nat.le_refl _,rfl,(by show _=_;rw [HR.out]),hrs⟩
        case round =>
          obtain ⟨q,rfl,hqk,rfl,hq,hqs⟩:=hrel
          clear HR hrs
          by_cases hgo:∃ h0:0 < q.size,isBl (q[q.size - 1]'(by omega))=true
          · obtain ⟨h0,hb0⟩:=hgo
            have hb:=u8_bl q[q.size - 1]
            rw [hb0] at hb
            have hz:(q.extract 0 (q.size - 1)).size=q.size - 1:=by simp
            have HN:Hid ((q.extract 0 (q.size - 1)).data.toList.reverse.dropWhile isBl=(s.data.toList.dropWhile isBl).reverse.dropWhile isBl∧(q.extract 0 (q.size - 1)).size=q.size - 1):=by
              refine ⟨?_,hz⟩
              rw [← hq.out]
              conv=>rhs;rw [ext_init q h0,List.reverse_append]
              rw [List.reverse_singleton,List.singleton_append,List.dropWhile_cons,if_pos hb0]
            have hidx:((q.size:Int) - 1).toNat=q.size - 1:=by omega
            clear hb0 hz
            by_cases k1:((q[q.size - 1].toNat:Int) == 32)=true
            · clear hb
              go_wp2
              go_roundg (q.size - 1)
              case measure=>omega
              case rel=>exact ⟨_,rfl,by rw [HN.out.2];exact Nat.le_refl _,rfl,HN.out.1,by rw [HN.out.2];omega⟩
            · have k1':((q[q.size - 1].toNat:Int) == 32)=false:=by simpa using k1
              have k2:((q[q.size - 1].toNat:Int) == 9)=true:=by rw [k1'] at hb;simpa using hb.symm
              clear hb k1
              go_wp2
              go_roundg (q.size - 1)
              case measure=>omega
              case rel=>exact ⟨_,rfl,by rw [HN.out.2];exact Nat.le_refl _,rfl,HN.out.1,by rw [HN.out.2];omega⟩
          · have HE:Hid (q=trimS s):=by
              show _=_
              unfold trimS trimL
              rw [← hq.out]
              apply ByteArray.ext
              apply Array.ext'
              by_cases h0:0 < q.size
              · have e:=ext_init q h0
                conv=>rhs;rw [e,List.reverse_append]
                simp only [List.reverse_singleton,List.singleton_append]
                rw [List.dropWhile_cons,if_neg (fun hh=>hgo ⟨h0,hh⟩)]
                simp only [List.reverse_cons,List.reverse_reverse]
                exact e
              · have e:q.data.toList=[]:=by
                  rw [← List.length_eq_zero_iff,Array.length_toList]
                  show q.size=0
                  omega
                simp [e]
            have hgo':∀ h0:0 < q.size,((q[q.size - 1].toNat:Int) == 32)=false∧((q[q.size - 1].toNat:Int) == 9)=false:=by
              intro h0
              have hb:=u8_bl q[q.size - 1]
              rw [Bool.eq_false_iff.2 (fun hh=>hgo ⟨h0,hh⟩)] at hb
              simpa using hb.symm
            have HG:Hid _:=hgo'
            clear hgo hgo' hq hqk
            by_cases h1:0 < q.size
            · obtain ⟨k1,k2⟩:=HG.out h1
              have hidx:((q.size:Int) - 1).toNat=q.size - 1:=by omega
              clear HG
              go_wp2
              go_ret
              exact ⟨by rw [← HE.out];rfl,rfl⟩
            · clear HG
              go_wp2
              go_ret
              exact ⟨by rw [← HE.out];rfl,rfl⟩
      · clear HG
        go_wp2
        go_loopg [0] r.size (fun gk t wr2=>∃ q:ByteArray,t=.string q∧q.size≤gk∧wr2=wr∧Hid (q.data.toList.reverse.dropWhile isBl=(s.data.toList.dropWhile isBl).reverse.dropWhile isBl)∧q.size≤s.size)
        case atStart=>exact ⟨r,rfl,Nat.le_refl _,rfl,(by show _=_;rw [HR.out]),hrs⟩
        case round =>
          obtain ⟨q,rfl,hqk,rfl,hq,hqs⟩:=hrel
          clear HR hrs
          by_cases hgo:∃ h0:0 < q.size,isBl (q[q.size - 1]'(by omega))=true
          · obtain ⟨h0,hb0⟩:=hgo
            have hb:=u8_bl q[q.size - 1]
            rw [hb0] at hb
            have hz:(q.extract 0 (q.size - 1)).size=q.size - 1:=by simp
            have HN:Hid ((q.extract 0 (q.size - 1)).data.toList.reverse.dropWhile isBl=(s.data.toList.dropWhile isBl).reverse.dropWhile isBl∧(q.extract 0 (q.size - 1)).size=q.size - 1):=by
              refine ⟨?_,hz⟩
              rw [← hq.out]
              conv=>rhs;rw [ext_init q h0,List.reverse_append]
              rw [List.reverse_singleton,List.singleton_append,List.dropWhile_cons,if_pos hb0]
            have hidx:((q.size:Int) - 1).toNat=q.size - 1:=by omega
            clear hb0 hz
            by_cases k1:((q[q.size - 1].toNat:Int) == 32)=true
            · clear hb
              go_wp2
              go_roundg (q.size - 1)
              case measure=>omega
              case rel=>exact ⟨_,rfl,by rw [HN.out.2];exact Nat.le_refl _,rfl,HN.out.1,by rw [HN.out.2];omega⟩
            · have k1':((q[q.size - 1].toNat:Int) == 32)=false:=by simpa using k1
              have k2:((q[q.size - 1].toNat:Int) == 9)=true:=by rw [k1'] at hb;simpa using hb.symm
              clear hb k1
              go_wp2
              go_roundg (q.size - 1)
              case measure=>omega
              case rel=>exact ⟨_,rfl,by rw [HN.out.2];exact Nat.le_refl _,rfl,HN.out.1,by rw [HN.out.2];omega⟩
          · have HE:Hid (q=trimS s):=by
              show _=_
              unfold trimS trimL
              rw [← hq.out]
              apply ByteArray.ext
              apply Array.ext'
              by_cases h0:0 < q.size
              · have e:=ext_init q h0
                conv=>rhs;rw [e,List.reverse_append]
                simp only [List.reverse_singleton,List.singleton_append]
                rw [List.dropWhile_cons,if_neg (fun hh=>hgo ⟨h0,hh⟩)]
                simp only [List.reverse_cons,List.reverse_reverse]
                exact e
              · have e:q.data.toList=[]:=by
                  rw [← List.length_eq_zero_iff,Array.length_toList]
                  show q.size=0
                  omega
                simp [e]
            have hgo':∀ h0:0 < q.size,((q[q.size - 1].toNat:Int) == 32)=false∧((q[q.size - 1].toNat:Int) == 9)=false:=by
              intro h0
              have hb:=u8_bl q[q.size - 1]
              rw [Bool.eq_false_iff.2 (fun hh=>hgo ⟨h0,hh⟩)] at hb
              simpa using hb.symm
            have HG:Hid _:=hgo'
            clear hgo hgo' hq hqk
            by_cases h1:0 < q.size
            · obtain ⟨k1,k2⟩:=HG.out h1
              have hidx:((q.size:Int) - 1).toNat=q.size - 1:=by omega
              clear HG
              go_wp2
              go_ret
              exact ⟨by rw [← HE.out];rfl,rfl⟩
            · clear HG
              go_wp2
              go_ret
              exact ⟨by rw [← HE.out];rfl,rfl⟩
end Go.Proofs.YtljcljipppjnoaaGreatDoor
namespace Go.Proofs.YtljcljipppjnoaaGreatDoor
open Go.RowKit
def hashes (l:List UInt8):Nat:=(l.takeWhile (· == 35)).length
def levelS (s:ByteArray):Nat :=
  if hashes s.data.toList < 1∨3 < hashes s.data.toList∨(s.data.toList[hashes s.data.toList]?).map isBl=some false then 0 else hashes s.data.toList
theorem hashes_at (s:ByteArray) (k:Nat) (hk:k≤s.size) (ha:(s.data.toList.take k).all (· == 35)=true) (hn:∀ h:k < s.size,(s[k] == 35)=false):hashes s.data.toList=k:=by
  unfold hashes
  have hl:s.data.toList.length=s.size:=by rw [Array.length_toList];rfl
  rw [← List.take_append_drop k s.data.toList,List.takeWhile_append_of_pos (by simpa using ha)]
  by_cases h:k < s.size
  · rw [drop_cons s k h,List.takeWhile_cons,if_neg (by simpa using hn h)]
    simp
    omega
  · rw [List.drop_eq_nil_iff.2 (by omega)]
    simp
    omega
theorem at_some (s:ByteArray) (k:Nat) (h:k < s.size):s.data.toList[k]?=some s[k]:=by
  rw [List.getElem?_eq_getElem (by rw [Array.length_toList];exact h)]
  rfl
theorem at_none (s:ByteArray) (k:Nat) (h:¬ k < s.size):s.data.toList[k]?=none:=by
  rw [List.getElem?_eq_none_iff,Array.length_toList]
  show s.size≤k
  omega
set_option maxHeartbeats 1000000 in
theorem rlevel_any (s:ByteArray) (w:World) (hs:s.size≤4611686018427387904) :
    Calls Tryz.prog 39 #[.string s] w fun e w'=>e=.returned (.int .i64 (levelS s))∧w'=w:=by
  go_enter Tryz.func39,Tryz.ntmps39
  go_wp2
  go_loop [3] (fun i=>∃ k:Nat,k≤s.size∧i=.int .i64 k∧Hid ((s.data.toList.take k).all (· == 35)=true)) (fun i=>s.size - (intOf i).toNat)
  case atStart=>exact ⟨0,Nat.zero_le _,rfl,(by show _=_;simp)⟩
  case round =>
    obtain ⟨k,hk,rfl,ha⟩:=hrel
    by_cases hgo:∃ h:k < s.size,(s[k] == 35)=true
    · obtain ⟨hlt,hb⟩:=hgo
      have k1:((s[k].toNat:Int) == 35)=true:=(u8_eq s[k] 35).trans hb
      have HB:Hid ((s[k] == 35)=true):=hb
      clear hb
      go_wp2
      go_round
      case rel =>
        refine ⟨k+1,by omega,by go_num,?_⟩
        show _=_
        rw [take_snoc s k hlt,List.all_append,ha.out]
        simpa using HB.out
      case measure=>simp [intOf];omega
    · have HH:Hid (hashes s.data.toList=k):=hashes_at s k hk ha.out (fun h=>Bool.eq_false_iff.2 (fun hh=>hgo ⟨h,hh⟩))
      by_cases hlt:k < s.size
      · have k1:((s[k].toNat:Int) == 35)=false:=(u8_eq s[k] 35).trans (Bool.eq_false_iff.2 (fun hh=>hgo ⟨hlt,hh⟩))
        clear hgo
        have hb:=u8_bl s[k]
        by_cases h1:k < 1
        · have HL:Hid (levelS s=0):=by show _=_;unfold levelS;rw [HH.out,if_pos (Or.inl h1)]
          clear hb
          go_wp2
          go_ret
          exact ⟨by rw [HL.out];rfl,rfl⟩
        by_cases h3:3 < k
        · have HL:Hid (levelS s=0):=by show _=_;unfold levelS;rw [HH.out,if_pos (Or.inr (Or.inl h3))]
          clear hb
          go_wp2
          go_ret
          exact ⟨by rw [HL.out];rfl,rfl⟩
        cases hbl:isBl s[k] with
        | true =>
          have HL:Hid (levelS s=k):=by
            show _=_
            unfold levelS
            rw [HH.out,at_some s k hlt,if_neg]
            simp [hbl]
            omega
          rw [hbl] at hb
          clear hbl
          by_cases j1:((s[k].toNat:Int) == 32)=true
          · have j1':((s[k].toNat:Int) != 32)=false:=by simpa using j1
            clear hb
            go_wp2
            go_ret
            exact ⟨by rw [HL.out];rfl,rfl⟩
          · have j1n:((s[k].toNat:Int) == 32)=false:=by simpa using j1
            have j2:((s[k].toNat:Int) == 9)=true:=by rw [j1n] at hb;simpa using hb.symm
            have j1':((s[k].toNat:Int) != 32)=true:=by simpa using j1n
            have j2':((s[k].toNat:Int) != 9)=false:=by simpa using j2
            clear hb j1
            go_wp2
            go_ret
            exact ⟨by rw [HL.out];rfl,rfl⟩
        | false =>
          have HL:Hid (levelS s=0):=by
            show _=_
            unfold levelS
            rw [HH.out,at_some s k hlt,if_pos]
            simp [hbl]
          rw [hbl] at hb
          have j0:((s[k].toNat:Int) == 32)=false∧((s[k].toNat:Int) == 9)=false:=by simpa using hb.symm
          have j1':((s[k].toNat:Int) != 32)=true:=by simpa using j0.1
          have j2':((s[k].toNat:Int) != 9)=true:=by simpa using j0.2
          clear hbl hb j0
          go_wp2
          go_ret
          exact ⟨by rw [HL.out];rfl,rfl⟩
      · clear hgo
        by_cases h1:k < 1
        · have HL:Hid (levelS s=0):=by show _=_;unfold levelS;rw [HH.out,if_pos (Or.inl h1)]
          go_wp2
          go_ret
          exact ⟨by rw [HL.out];rfl,rfl⟩
        by_cases h3:3 < k
        · have HL:Hid (levelS s=0):=by show _=_;unfold levelS;rw [HH.out,if_pos (Or.inr (Or.inl h3))]
          go_wp2
          go_ret
          exact ⟨by rw [HL.out];rfl,rfl⟩
        · have HL:Hid (levelS s=k):=by
            show _=_
            unfold levelS
            rw [HH.out,at_none s k hlt,if_neg]
            simp
            omega
          go_wp2
          go_ret
          exact ⟨by rw [HL.out];rfl,rfl⟩
def startsS (s:ByteArray) (depth:Int):Int :=
  if beginsS s ⟨#[96,96,96]⟩=true then 2
  else if 0 < levelS s then 3
  else if beginsS s ⟨#[62]⟩=true∧depth < 3 then 4
  else if itemS s=true∧depth < 3 then 5
  else 0
set_option maxHeartbeats 1000000 in
theorem rstarts_any (s:ByteArray) (depth:Int) (w:World) (hs:s.size≤4611686018427387904) :
    Calls Tryz.prog 37 #[.string s,.int .i64 depth] w fun e w'=>e=.returned (.int .i64 (startsS s depth))∧w'=w:=by
  have c1:=fun W=>begins_any s ⟨#[96,96,96]⟩ W
  have c2:=fun W=>rlevel_any s W hs
  have c3:=fun W=>begins_any s ⟨#[62]⟩ W
  have c4:=fun W=>ritem_any s W
  obtain ⟨r,hS⟩:∃ r,startsS s depth=r:=⟨_,rfl⟩
  rw [hS]
  unfold startsS at hS
  generalize beginsS s ⟨#[96,96,96]⟩=b1 at c1 hS
  generalize beginsS s ⟨#[62]⟩=b3 at c3 hS
  generalize itemS s=b4 at c4 hS
  generalize levelS s=n at c2 hS
  have HS:Hid _:=hS
  clear hS
  by_cases h2:0 < n
  · have g2:decide ((0:Int) < (n:Int))=true:=by simp;omega
    cases b1
    all_goals
      go_enter Tryz.func37,Tryz.ntmps37
      go_wp2_with (first | (go_at_call_of 64 (Value.string { data:=#[96,96,96] });refine (c1 _).mono ?_;rintro e w' ⟨rfl,rfl⟩) | (go_at_call_of 64 (Value.string { data:=#[62] });refine (c3 _).mono ?_;rintro e w' ⟨rfl,rfl⟩) | (go_at_call 39;refine (c2 _).mono ?_;rintro e w' ⟨rfl,rfl⟩) | (go_at_call 65;refine (c4 _).mono ?_;rintro e w' ⟨rfl,rfl⟩))
      go_ret
      exact ⟨by rw [← HS.out];simp [h2],rfl⟩
  · have g2:n=0:=by omega
    subst g2
    by_cases hd:depth < 3
    all_goals
      cases b1
      all_goals
        cases b3
        all_goals
          cases b4
          all_goals
            go_enter Tryz.func37,Tryz.ntmps37
            go_wp2_with (first | (go_at_call_of 64 (Value.string { data:=#[96,96,96] });refine (c1 _).mono ?_;rintro e w' ⟨rfl,rfl⟩) | (go_at_call_of 64 (Value.string { data:=#[62] });refine (c3 _).mono ?_;rintro e w' ⟨rfl,rfl⟩) | (go_at_call 39;refine (c2 _).mono ?_;rintro e w' ⟨rfl,rfl⟩) | (go_at_call 65;refine (c4 _).mono ?_;rintro e w' ⟨rfl,rfl⟩))
            go_ret
            exact ⟨by rw [← HS.out];first | (simp [hd];done) | simp [Int.not_lt.2 hd],rfl⟩
end Go.Proofs.YtljcljipppjnoaaGreatDoor
namespace Go.Proofs.YtljcljipppjnoaaGreatDoor
open Go.RowKit
def linesL:List UInt8→List UInt8→List (List UInt8)
  | cur,[]=>if cur=[] then [] else [cur]
  | cur,c :: r=>if c=10 then cur :: linesL [] r else linesL (cur++[c]) r
def strCs (ls:List (List UInt8)):List Value:=ls.map fun l=>Value.string ⟨l.toArray⟩
theorem Tryz.infoStr:(Tryz.prog.info? 9).map (fun i=>(i.zero,i.size,i.bytes))=some (some (.string ⟨#[]⟩),1,16):=by kernel_rfl
set_option maxHeartbeats 2000000 in
theorem rlines_any (s:ByteArray) (w:World) (hs:s.size≤1099511627776) :
    Calls Tryz.prog 14 #[.string s] w fun e w'=>∃ v,e=.returned v∧w'.ownsRow w.heap.size 9 1 v (linesL [] s.data.toList).length (strCs (linesL [] s.data.toList))∧Below w.heap.size w w':=by
  obtain ⟨i0,hi,hz0,hz1,hz2⟩:=info_parts Tryz.infoStr
  go_enter Tryz.func14,Tryz.ntmps14
  go_wp2
  go_loopw [3,4,5] (fun v c i wr=>∃ (k:Nat) (done:List (List UInt8)) (cur:ByteArray),k≤s.size∧i=.int .i64 k∧c=.string cur∧wr.ownsRow w.heap.size 9 1 v done.length (strCs done)∧Below w.heap.size w wr∧Hid (done++linesL cur.data.toList (s.data.toList.drop k)=linesL [] s.data.toList)∧done.length+cur.size≤k) (fun _ _ i _=>s.size - (intOf i).toNat)
  case atStart=>exact ⟨0,[],⟨#[]⟩,Nat.zero_le _,rfl,rfl,World.ownsRow_nil _ _ _ _,Below.refl _ _,(by show _=_;simp),(by decide)⟩
  case round =>
    obtain ⟨k,done,cur,hk,rfl,rfl,hown,hbel,hl,hsz⟩:=hrel
    have hbs:=hbel.size
    by_cases hlt:k < s.size
    · by_cases h10:s[k]=10
      · have k1:((s[k].toNat:Int) == 10)=true:=by rw [h10];rfl
        have HL:Hid ((done++[cur.data.toList])++linesL [] (s.data.toList.drop (k+1))=linesL [] s.data.toList):=by
          show _=_
          rw [← hl.out,drop_cons s k hlt]
          simp [linesL,h10]
        clear h10
        go_wp2_with (at_builtin;refine wpList_append_own _ rfl _ _ 25 rfl w.heap.size 9 i0 (.string ⟨#[]⟩) 1 16 Tryz.underlying25 hi hz0 hz1 hz2 rfl (by decide) _ _ _ rfl (hown.alloc _) ⟨wr.heap.size,0,none⟩ 1 1 [.string cur] rfl rfl ?c1 ?c2 ?c3 ?c4 ?c5 ?_)
        case c1 =>
          intro j u hj
          match j,hj with
          | 0,hj=>simp at hj;subst hj;simp [Addr.add]
        case c2=>intro u hu;simp at hu;subst hu;rfl
        case c3=>unfold maxLen;omega
        case c4=>omega
        case c5=>simp;omega
        intro v' w1 hown' hgrow _
        go_wp2
        go_roundw
        case rel =>
          refine ⟨k+1,done++[cur.data.toList],⟨#[]⟩,by omega,by go_num,rfl,?_,(hbel.alloc hbs _).grown hgrow (by simp;omega) (fun b hb=>(hown.lt b hb).1),HL.out,?_⟩
          · simpa [strCs] using hown'
          · have e0:((⟨#[]⟩:ByteArray)).size=0:=rfl
            rw [e0,List.length_append,List.length_singleton]
            omega
        case measure=>simp [intOf];omega
      · have k1:((s[k].toNat:Int) == 10)=false:=(u8_eq s[k] 10).trans (beq_eq_false_iff_ne.2 h10)
        have hx1:(s.extract k (k+1)).data.toList=[s[k]]:=by
          rw [Lib.extract_data,drop_cons s k hlt]
          simp
        have hx2:(s.extract k (k+1)).size=1:=by simp;omega
        have HL:Hid (done++linesL (cur++s.extract k (k+1)).data.toList (s.data.toList.drop (k+1))=linesL [] s.data.toList∧(cur++s.extract k (k+1)).size=cur.size+1):=by
          refine ⟨?_,by rw [ByteArray.size_append,hx2]⟩
          rw [← hl.out,drop_cons s k hlt,ByteArray.data_append,Array.toList_append,hx1]
          simp [linesL,h10]
        clear h10 hx1
        go_wp2
        go_roundw
        case rel=>exact ⟨k+1,done,_,by omega,by go_num,rfl,hown,hbel,HL.out.1,by rw [HL.out.2];omega⟩
        case measure=>simp [intOf];omega
    · have hd:s.data.toList.drop k=[]:=List.drop_eq_nil_iff.2 (by rw [Array.length_toList];show s.size≤k;omega)
      have HL:Hid (done++(if cur.data.toList=[] then [] else [cur.data.toList])=linesL [] s.data.toList):=by
        show _=_
        rw [← hl.out,hd]
        rfl
      have hem:cur.toList.isEmpty=decide (cur.data.toList=[]):=by
        rw [list_of]
        cases cur.data.toList <;> rfl
      by_cases h0:cur.data.toList=[]
      · rw [decide_eq_true h0] at hem
        have HL2:Hid (done=linesL [] s.data.toList):=by
          have:=HL.out
          rw [if_pos h0,List.append_nil] at this
          exact this
        clear hl hd h0
        go_wp2
        go_ret
        exact ⟨_,rfl,by rw [← HL2.out];exact hown,hbel⟩
      · rw [decide_eq_false h0] at hem
        have HL2:Hid (done++[cur.data.toList]=linesL [] s.data.toList):=by
          have:=HL.out
          rw [if_neg h0] at this
          exact this
        clear hl hd h0
        go_wp2_with (at_builtin;refine wpList_append_own _ rfl _ _ 25 rfl w.heap.size 9 i0 (.string ⟨#[]⟩) 1 16 Tryz.underlying25 hi hz0 hz1 hz2 rfl (by decide) _ _ _ rfl (hown.alloc _) ⟨wr.heap.size,0,none⟩ 1 1 [.string cur] rfl rfl ?c1 ?c2 ?c3 ?c4 ?c5 ?_)
        case c1 =>
          intro j u hj
          match j,hj with
          | 0,hj=>simp at hj;subst hj;simp [Addr.add]
        case c2=>intro u hu;simp at hu;subst hu;rfl
        case c3=>unfold maxLen;omega
        case c4=>omega
        case c5=>simp;omega
        intro v' w1 hown' hgrow _
        go_wp2
        go_ret
        refine ⟨_,rfl,?_,(hbel.alloc hbs _).grown hgrow (by simp;omega) (fun b hb=>(hown.lt b hb).1)⟩
        rw [← HL2.out]
        simpa [strCs] using hown'
end Go.Proofs.YtljcljipppjnoaaGreatDoor
namespace Go.Proofs.YtljcljipppjnoaaGreatDoor
open Go.RowKit
structure Ev where
  kind:Int
  fin:Bool
  level:Int
  text:List UInt8
def evCells (e:Ev):List Value:=[.int .i64 e.kind,.bool e.fin,.int .i64 e.level,.string ⟨e.text.toArray⟩]
def evCs (l:List Ev):List Value:=l.flatMap evCells
theorem evCs_length (l:List Ev):(evCs l).length=l.length * 4:=by
  induction l with
  | nil=>rfl
  | cons e r ih=>simp only [evCs,List.flatMap_cons,List.length_append,List.length_cons] at ih ⊢;rw [ih];simp [evCells];omega
theorem evCs_append (a b:List Ev):evCs (a++b)=evCs a++evCs b:=by simp [evCs]
theorem evCs_one (e:Ev):evCs [e]=evCells e:=by simp [evCs]
def leafS (kind level:Int) (t:List UInt8):List Ev :=
  [⟨kind,false,level,[]⟩]++(if t=[] then [] else [⟨8,false,0,t⟩])++[⟨kind,true,level,[]⟩]
theorem Tryz.infoEv:(Tryz.prog.info? 83).map (fun i=>(i.zero,i.size,i.bytes))=some (some (.agg #[.int .i64 0,.bool false,.int .i64 0,.string ⟨#[]⟩]),4,40):=by kernel_rfl
theorem own_lit (w:World) (e:Ev) (t:TypeId):(w.alloc (.cells (evCells e).toArray t)).ownsRow w.heap.size t 4 (.slice (some ⟨w.heap.size,0,none⟩) 1 1) 1 (evCs [e]):=by
  refine ⟨by rw [evCs_length];rfl,Or.inr ⟨w.heap.size,1,(evCells e).toArray,rfl,Nat.le_refl _,?_,Nat.le_refl _,by decide,by simp [evCells],by simp [evCells,evCs_one]⟩⟩
  show (w.heap.push _)[w.heap.size]?=_
  simp
theorem ev_cell (w:World) (e:Ev) (t:TypeId) {n:Nat} (hn:n=w.heap.size):∀ j u,(evCells e)[j]?=some u→(w.alloc (.cells (evCells e).toArray t)).cell? ((⟨n,0,none⟩:Addr).add j)=some u:=by
  subst hn
  intro j u hj
  rw [Addr.add_lit,Nat.zero_add]
  have hh:(w.alloc (.cells (evCells e).toArray t)).heap[w.heap.size]?=some (.cells (evCells e).toArray t (0,0)):=by
    show (w.heap.push _)[w.heap.size]?=_
    simp
  simp only [World.cell?,hh]
  simpa using hj
theorem ev_one (e:Ev):∀ u ∈ evCells e,u.oneCell'=true:=by
  intro u hu
  simp [evCells] at hu
  rcases hu with rfl | rfl | rfl | rfl <;> rfl
set_option maxHeartbeats 2000000 in
theorem rleaf_any (kind level:Int) (s:ByteArray) (w:World) :
    Calls Tryz.prog 41 #[.int .i64 kind,.int .i64 level,.string s] w fun e w'=>∃ v,e=.returned v∧w'.ownsRow w.heap.size 83 4 v (leafS kind level s.data.toList).length (evCs (leafS kind level s.data.toList))∧Below w.heap.size w w':=by
  obtain ⟨i0,hi,hz0,hz1,hz2⟩:=info_parts Tryz.infoEv
  have hem:s.toList.isEmpty=decide (s.data.toList=[]):=by
    rw [list_of]
    cases s.data.toList <;> rfl
  have o1:=own_lit w ⟨kind,false,level,[]⟩ 83
  by_cases h0:s.data.toList=[]
  · rw [decide_eq_true h0] at hem
    have HL:Hid (leafS kind level s.data.toList=[⟨kind,false,level,[]⟩,⟨kind,true,level,[]⟩]):=by show _=_;simp [leafS,h0]
    clear h0
    go_enter Tryz.func41,Tryz.ntmps41
    go_wp2_with (at_builtin;refine wpList_append_own _ rfl _ _ 27 rfl w.heap.size 83 i0 (.agg #[.int .i64 0,.bool false,.int .i64 0,.string ⟨#[]⟩]) 4 40 Tryz.underlying27 hi hz0 hz1 hz2 rfl (by decide) _ 1 (evCs [⟨kind,false,level,[]⟩]) rfl (o1.alloc _) ⟨w.heap.size+1,0,none⟩ 1 1 (evCells ⟨kind,true,level,[]⟩) rfl rfl ?c1 (ev_one _) ?c3 ?c4 ?c5 ?_)
    case c1=>exact ev_cell _ _ _ (by simp)
    case c3=>unfold maxLen;simp
    case c4=>simp
    case c5=>simp;omega
    intro v' w1 hown' hgrow _
    go_wp2
    go_ret
    rw [HL.out]
    refine ⟨_,rfl,?_,(((Below.refl _ w).alloc (Nat.le_refl _) _).alloc (by simp) _).grown hgrow (by simp;omega) (fun b hb=>(o1.lt b hb).1)⟩
    simpa [evCs] using hown'
  · rw [decide_eq_false h0] at hem
    have HL:Hid (leafS kind level s.data.toList=[⟨kind,false,level,[]⟩,⟨8,false,0,s.data.toList⟩,⟨kind,true,level,[]⟩]):=by show _=_;simp [leafS,h0]
    clear h0
    go_enter Tryz.func41,Tryz.ntmps41
    go_wp2_with (at_builtin;refine wpList_append_own _ rfl _ _ 27 rfl w.heap.size 83 i0 (.agg #[.int .i64 0,.bool false,.int .i64 0,.string ⟨#[]⟩]) 4 40 Tryz.underlying27 hi hz0 hz1 hz2 rfl (by decide) _ 1 (evCs [⟨kind,false,level,[]⟩]) rfl (o1.alloc _) ⟨w.heap.size+1,0,none⟩ 1 1 (evCells ⟨8,false,0,s.data.toList⟩) rfl rfl ?c1 (ev_one _) ?c3 ?c4 ?c5 ?_)
    case c1=>exact ev_cell _ _ _ (by simp)
    case c3=>unfold maxLen;simp
    case c4=>simp
    case c5=>simp;omega
    intro v1 w1 own1 grow1 _
    have b1:Below w.heap.size w w1:=(((Below.refl _ w).alloc (Nat.le_refl _) _).alloc (by simp) _).grown grow1 (by simp;omega) (fun b hb=>(o1.lt b hb).1)
    have own1':w1.ownsRow w.heap.size 83 4 v1 2 (evCs [⟨kind,false,level,[]⟩,⟨8,false,0,s.data.toList⟩]):=by simpa [evCs] using own1
    have z1:=b1.size
    have hsh:∃ ao n' cap',v1=.slice ao n' cap':=by
      rcases own1'.2 with ⟨hv,_⟩ | ⟨g,cap,cur,hv,_⟩
      · exact ⟨_,_,_,hv⟩
      · exact ⟨_,_,_,hv⟩
    obtain ⟨ao,n',cap',hv⟩:=hsh
    rw [hv] at own1' ⊢
    clear own1 grow1 o1 hv
    go_wp2_with (at_builtin;refine wpList_append_own _ rfl _ _ 27 rfl w.heap.size 83 i0 (.agg #[.int .i64 0,.bool false,.int .i64 0,.string ⟨#[]⟩]) 4 40 Tryz.underlying27 hi hz0 hz1 hz2 rfl (by decide) _ 2 (evCs [⟨kind,false,level,[]⟩,⟨8,false,0,s.data.toList⟩]) rfl (own1'.alloc _) ⟨w1.heap.size,0,none⟩ 1 1 (evCells ⟨kind,true,level,[]⟩) rfl rfl ?d1 (ev_one _) ?d3 ?d4 ?d5 ?_)
    case d1=>exact ev_cell _ _ _ (by simp)
    case d3=>unfold maxLen;simp
    case d4=>simp
    case d5=>simp;omega
    intro v2 w2 own2 grow2 _
    go_wp2
    go_ret
    rw [HL.out]
    refine ⟨_,rfl,?_,(b1.alloc z1 _).grown grow2 (by simp;omega) (fun b hb=>(own1'.lt b hb).1)⟩
    simpa [evCs] using own2
end Go.Proofs.YtljcljipppjnoaaGreatDoor
namespace Go.Proofs.YtljcljipppjnoaaGreatDoor
open Go.RowKit
structure Strs (g o cap:Nat) (ls:List (List UInt8)) (w:World):Prop where
  fits:ls.length≤cap
  max:cap≤9223372036854775807
  lt:g < w.heap.size
  cell:∀ (j:Nat) (l:List UInt8),ls[j]?=some l→w.cell? ⟨g,o+j,none⟩=some (.string ⟨l.toArray⟩)
theorem Strs.below {g o cap B:Nat} {ls:List (List UInt8)} {w w':World} (h:Strs g o cap ls w) (hb:Below B w w') (hg:g < B):Strs g o cap ls w' :=
  ⟨h.fits,h.max,by have:=hb.size;have:=h.lt;omega,fun j l hj=>(hb.cell (p:=⟨g,o+j,none⟩) hg).trans (h.cell j l hj)⟩
def blankL (l:List UInt8):Bool:=l.all isBl
def behindS (ls:List (List UInt8)) (n:Nat):Nat:=n+((ls.drop n).takeWhile blankL).length
def Small (M:Nat) (ls:List (List UInt8)):Prop:=ls.length≤M∧∀ l ∈ ls,l.length≤M
theorem behind_lt (ls:List (List UInt8)) (n:Nat) (h:n < ls.length) (hb:blankL ls[n]=true):behindS ls n=behindS ls (n+1):=by
  unfold behindS
  rw [List.drop_eq_getElem_cons h,List.takeWhile_cons,if_pos hb]
  simp
  omega
theorem behind_at (ls:List (List UInt8)) (n:Nat) (h:n < ls.length) (hb:blankL ls[n]=false):behindS ls n=n:=by
  unfold behindS
  rw [List.drop_eq_getElem_cons h,List.takeWhile_cons,if_neg (by simp [hb])]
  rfl
theorem behind_end (ls:List (List UInt8)) (n:Nat) (h:n=ls.length):behindS ls n=n:=by
  unfold behindS
  rw [List.drop_eq_nil_iff.2 (by omega)]
  rfl
theorem size_of (l:List UInt8):(⟨l.toArray⟩:ByteArray).size=l.length:=by
  show l.toArray.size=_
  simp
set_option maxHeartbeats 1000000 in
theorem rbehind_any (g o cap:Nat) (ls:List (List UInt8)) (n:Nat) (w:World) (hS:Strs g o cap ls w) (hM:Small 4611686018427387904 ls) (hn:n≤ls.length) :
    Calls Tryz.prog 66 #[.slice (some ⟨g,o,none⟩) ls.length cap,.int .i64 n] w fun e w'=>e=.returned (.int .i64 (behindS ls n))∧w'=w:=by
  have hlen:=hM.1
  have HM:Hid (Small 4611686018427387904 ls):=hM
  have HS:Hid (Strs g o cap ls w):=hS
  clear hM hS
  go_enter Tryz.func66,Tryz.ntmps66
  go_wp2
  go_loop [1] (fun i=>∃ k:Nat,k≤ls.length∧i=.int .i64 k∧Hid (behindS ls k=behindS ls n)) (fun i=>ls.length - (intOf i).toNat)
  case atStart=>exact ⟨n,hn,rfl,(by show _=_;rfl)⟩
  case round =>
    obtain ⟨k,hk,rfl,hb⟩:=hrel
    by_cases hlt:k < ls.length
    · obtain ⟨l,hl⟩:∃ l,ls[k]=l:=⟨_,rfl⟩
      have hcell:=HS.out.cell k l (by rw [List.getElem?_eq_getElem hlt,hl])
      have hsz:l.length≤4611686018427387904:=HM.out.2 l (by rw [← hl];exact List.getElem_mem hlt)
      have hc:=fun W=>rBlank_any ⟨l.toArray⟩ W (by rw [size_of];exact hsz)
      have hbl:blankS ⟨l.toArray⟩=blankL l:=rfl
      rw [hbl] at hc
      cases hbb:blankL l with
      | true =>
        have HB:Hid (behindS ls k=behindS ls (k+1)):=behind_lt ls k hlt (by rw [hl];exact hbb)
        rw [hbb] at hc
        clear hbb hbl hsz hl
        go_wp2_with (go_at_call 36;refine (hc _).mono ?_;rintro e w' ⟨rfl,rfl⟩)
        go_round
        case rel=>exact ⟨k+1,by omega,by go_num,(by show _=_;rw [← HB.out,hb.out])⟩
        case measure=>simp [intOf];omega
      | false =>
        have HB:Hid (behindS ls n=k):=by show _=_;rw [← hb.out];exact behind_at ls k hlt (by rw [hl];exact hbb)
        rw [hbb] at hc
        clear hbb hbl hsz hl
        go_wp2_with (go_at_call 36;refine (hc _).mono ?_;rintro e w' ⟨rfl,rfl⟩)
        go_ret
        exact ⟨by rw [HB.out];rfl,rfl⟩
    · have HB:Hid (behindS ls n=k):=by show _=_;rw [← hb.out];exact behind_end ls k (by omega)
      go_wp2
      go_ret
      exact ⟨by rw [HB.out];rfl,rfl⟩
end Go.Proofs.YtljcljipppjnoaaGreatDoor
namespace Go.Proofs.YtljcljipppjnoaaGreatDoor
open Go.RowKit
def joinT:List (List UInt8)→List UInt8
  | []=>[]
  | l :: r=>trimL l++r.flatMap fun x=>10 :: trimL x
theorem joinT_snoc (ls:List (List UInt8)) (x:List UInt8) (h:ls ≠ []):joinT (ls++[x])=joinT ls++10 :: trimL x:=by
  cases ls with
  | nil=>exact absurd rfl h
  | cons l r=>simp [joinT]
def stays (depth:Int) (l:List UInt8):Bool:=!blankL l && decide (startsS ⟨l.toArray⟩ depth=0)
def paraFrom (ls:List (List UInt8)) (depth:Int) (k:Nat):Nat:=k+((ls.drop k).takeWhile (stays depth)).length
theorem para_lt (ls:List (List UInt8)) (d:Int) (n:Nat) (h:n < ls.length) (hb:stays d ls[n]=true):paraFrom ls d n=paraFrom ls d (n+1):=by
  unfold paraFrom
  rw [List.drop_eq_getElem_cons h,List.takeWhile_cons,if_pos hb]
  simp
  omega
theorem para_at (ls:List (List UInt8)) (d:Int) (n:Nat) (h:n < ls.length) (hb:stays d ls[n]=false):paraFrom ls d n=n:=by
  unfold paraFrom
  rw [List.drop_eq_getElem_cons h,List.takeWhile_cons,if_neg (by simp [hb])]
  rfl
theorem para_end (ls:List (List UInt8)) (d:Int) (n:Nat) (h:n=ls.length):paraFrom ls d n=n:=by
  unfold paraFrom
  rw [List.drop_eq_nil_iff.2 (by omega)]
  rfl
theorem trimL_le (l:List UInt8):(trimL l).length≤l.length:=by
  unfold trimL
  rw [List.length_reverse]
  have h1:=(List.dropWhile_sublist (l:=(l.dropWhile isBl).reverse) isBl).length_le
  have h2:=(List.dropWhile_sublist (l:=l) isBl).length_le
  rw [List.length_reverse] at h1
  omega
theorem starts_nat (s:ByteArray) (d:Int):0≤startsS s d∧startsS s d≤5:=by
  unfold startsS
  split
  · omega
  split
  · omega
  split
  · omega
  split <;> omega
theorem ba_app (a b:List UInt8):(⟨a.toArray⟩:ByteArray)++⟨b.toArray⟩=⟨(a++b).toArray⟩:=by
  apply ByteArray.ext
  rw [ByteArray.data_append]
  simp
theorem ba3 (a b c:List UInt8):(⟨a.toArray⟩:ByteArray)++⟨b.toArray⟩++⟨c.toArray⟩=⟨(a++(b++c)).toArray⟩:=by
  rw [ba_app,ba_app,List.append_assoc]
theorem snoc_take (ls:List (List UInt8)) (k:Nat) (h:k < ls.length):ls.take (k+1)=ls.take k++[ls[k]]:=List.take_succ_eq_append_getElem h
set_option maxHeartbeats 2000000 in
theorem rpara_any (g o cap:Nat) (ls:List (List UInt8)) (depth:Int) (w:World) (hS:Strs g o cap ls w) (hM:Small 1073741824 ls) (hn:0 < ls.length) :
    Calls Tryz.prog 44 #[.slice (some ⟨g,o,none⟩) ls.length cap,.int .i64 depth] w fun e w' =>
      ∃ v,e=.returned (.tuple #[v,.int .i64 (paraFrom ls depth 1)])∧w'.ownsRow w.heap.size 83 4 v (leafS 0 0 (joinT (ls.take (paraFrom ls depth 1)))).length (evCs (leafS 0 0 (joinT (ls.take (paraFrom ls depth 1)))))∧Below w.heap.size w w':=by
  have hlen:=hM.1
  have HM:Hid (Small 1073741824 ls):=hM
  have HS:Hid (Strs g o cap ls w):=hS
  obtain ⟨l0,hl0⟩:∃ l,ls[0]=l:=⟨_,rfl⟩
  have c0:=hS.cell 0 l0 (by rw [List.getElem?_eq_getElem hn,hl0])
  rw [Nat.add_zero] at c0
  have hz0:l0.length≤1073741824:=hM.2 l0 (by rw [← hl0];exact List.getElem_mem hn)
  have ht0:=fun W=>rtrim_any ⟨l0.toArray⟩ W (by rw [size_of];omega)
  have hts:trimS ⟨l0.toArray⟩=⟨(trimL l0).toArray⟩:=rfl
  rw [hts] at ht0
  have hJ0:Hid (trimL l0=joinT (ls.take 1)∧(trimL l0).length≤1 * 1073741825):=by
    have:=trimL_le l0
    refine ⟨?_,by omega⟩
    rw [snoc_take ls 0 hn,hl0]
    simp [joinT]
  clear hM hS hts
  go_enter Tryz.func44,Tryz.ntmps44
  go_wp2_with (go_at_call 40;refine (ht0 _).mono ?_;rintro e w' ⟨rfl,hw⟩;rw [hw];clear hw)
  clear ht0 c0 hz0 hl0
  go_loop [6,7] (fun t i=>∃ (k:Nat) (acc:List UInt8),1≤k∧k≤ls.length∧i=.int .i64 k∧t=.string ⟨acc.toArray⟩∧Hid (acc=joinT (ls.take k)∧acc.length≤k * 1073741825)∧Hid (paraFrom ls depth k=paraFrom ls depth 1)) (fun _ i=>ls.length - (intOf i).toNat)
  case atStart=>exact ⟨1,trimL l0,Nat.le_refl _,by omega,rfl,rfl,hJ0,(by show _=_;rfl)⟩
  case round =>
    clear hJ0
    obtain ⟨k,acc,hk1,hk,rfl,rfl,hJ,hP⟩:=hrel
    have hacc:acc.length≤2305843009213693952:=by
      have h1:=hJ.out.2
      have h2:k * 1073741825≤1073741824 * 1073741825:=Nat.mul_le_mul_right _ (by omega)
      have h3:(1073741824 * 1073741825:Nat)≤2305843009213693952:=by decide
      exact Nat.le_trans h1 (Nat.le_trans h2 h3)
    have hfin:∀ n,paraFrom ls depth 1=n→Hid (acc=joinT (ls.take n))→Calls Tryz.prog 41 #[.int .i64 0,.int .i64 0,.string ⟨acc.toArray⟩] w fun e w'=>∃ v,e=.returned v∧w'.ownsRow w.heap.size 83 4 v (leafS 0 0 (joinT (ls.take (paraFrom ls depth 1)))).length (evCs (leafS 0 0 (joinT (ls.take (paraFrom ls depth 1)))))∧Below w.heap.size w w':=by
      intro n h1 h2
      rw [h1,← h2.out]
      exact rleaf_any 0 0 ⟨acc.toArray⟩ w
    by_cases hlt:k < ls.length
    · obtain ⟨l,hl⟩:∃ l,ls[k]=l:=⟨_,rfl⟩
      have hcell:=HS.out.cell k l (by rw [List.getElem?_eq_getElem hlt,hl])
      have hsz:l.length≤1073741824:=HM.out.2 l (by rw [← hl];exact List.getElem_mem hlt)
      have hcB:=fun W=>rBlank_any ⟨l.toArray⟩ W (by rw [size_of];omega)
      have hcS:=fun W=>rstarts_any ⟨l.toArray⟩ depth W (by rw [size_of];omega)
      have hcT:=fun W=>rtrim_any ⟨l.toArray⟩ W (by rw [size_of];omega)
      have hbl:blankS ⟨l.toArray⟩=blankL l:=rfl
      have htr:trimS ⟨l.toArray⟩=⟨(trimL l).toArray⟩:=rfl
      have hsn:=starts_nat ⟨l.toArray⟩ depth
      have htl:=trimL_le l
      have hst:stays depth l=(!blankL l && decide (startsS ⟨l.toArray⟩ depth=0)):=rfl
      rw [hbl] at hcB
      rw [htr] at hcT
      have HT:Hid (joinT (ls.take (k+1))=joinT (ls.take k)++10 :: trimL l):=by
        show _=_
        rw [snoc_take ls k hlt,joinT_snoc _ _ (by intro h;have:=congrArg List.length h;rw [List.length_take,List.length_nil] at this;omega),hl]
      generalize hbv:blankL l=bv at hcB hst
      generalize hsv:startsS ⟨l.toArray⟩ depth=sv at hcS hst hsn
      by_cases hgo:bv=false∧sv=0
      · obtain ⟨rfl,rfl⟩:=hgo
        have HP2:Hid (paraFrom ls depth (k+1)=paraFrom ls depth 1):=by
          show _=_
          rw [← para_lt ls depth k hlt (by rw [hl,hst];rfl),hP.out]
        clear hbv hsv hst hsn hbl htr hl
        generalize trimL l=tl at hcT HT htl
        have hs1:=size_of acc
        have hs2:=size_of tl
        go_wp2_with (first | (go_at_call 36;refine (hcB _).mono ?_;rintro e w' ⟨rfl,hw⟩;rw [hw];clear hw) | (go_at_call 37;refine (hcS _).mono ?_;rintro e w' ⟨rfl,hw⟩;rw [hw];clear hw) | (go_at_call 40;refine (hcT _).mono ?_;rintro e w' ⟨rfl,hw⟩;rw [hw];clear hw))
        go_round
        case rel =>
          refine ⟨k+1,acc++10 :: tl,by omega,by omega,by go_num,?_,⟨?_,?_⟩,HP2⟩
          · exact congrArg Value.string (ba3 acc [10] tl)
          · rw [HT.out,← hJ.out.1]
          · have:=hJ.out.2
            simp only [List.length_append,List.length_cons]
            omega
        case measure=>simp [intOf];omega
      · have HF:Hid (paraFrom ls depth 1=k):=by
          show _=_
          rw [← hP.out]
          refine para_at ls depth k hlt ?_
          rw [hl,hst]
          cases bv with
          | true=>rfl
          | false=>simp only [Bool.not_false,Bool.true_and,decide_eq_false_iff_not];exact fun h=>hgo ⟨rfl,h⟩
        have hF2:=hfin k HF.out hJ.out.1
        have hF3:=HF.out
        clear hbv hsv hst hbl htr hl hcT HT htl
        have hgo2:bv=true∨(bv=false∧0 < sv):=by
          cases bv with
          | true=>exact Or.inl rfl
          | false=>exact Or.inr ⟨rfl,by have:sv ≠ 0:=fun h=>hgo ⟨rfl,h⟩;omega⟩
        clear hgo
        rcases hgo2 with rfl | ⟨rfl,hpos⟩
        · go_wp2_with (first | (go_at_call 36;refine (hcB _).mono ?_;rintro e w' ⟨rfl,hw⟩;rw [hw];clear hw) | (go_at_call 37;refine (hcS _).mono ?_;rintro e w' ⟨rfl,hw⟩;rw [hw];clear hw) | (go_at_call 41;refine hF2.mono ?_;rintro e w' ⟨v,rfl,hown,hb⟩))
          go_ret2
          rw [hF3]
          rw [hF3] at hown
          exact ⟨v,rfl,hown,hb⟩
        · go_wp2_with (first | (go_at_call 36;refine (hcB _).mono ?_;rintro e w' ⟨rfl,hw⟩;rw [hw];clear hw) | (go_at_call 37;refine (hcS _).mono ?_;rintro e w' ⟨rfl,hw⟩;rw [hw];clear hw) | (go_at_call 41;refine hF2.mono ?_;rintro e w' ⟨v,rfl,hown,hb⟩))
          go_ret2
          rw [hF3]
          rw [hF3] at hown
          exact ⟨v,rfl,hown,hb⟩
    · have HF:Hid (paraFrom ls depth 1=k):=by
        show _=_
        rw [← hP.out]
        exact para_end ls depth k (by omega)
      have hF2:=hfin k HF.out hJ.out.1
      have hF3:=HF.out
      go_wp2_with (go_at_call 41;refine hF2.mono ?_;rintro e w' ⟨v,rfl,hown,hb⟩)
      go_ret2
      rw [hF3]
      rw [hF3] at hown
      exact ⟨v,rfl,hown,hb⟩
end Go.Proofs.YtljcljipppjnoaaGreatDoor
namespace Go.Proofs.YtljcljipppjnoaaGreatDoor
open Go.RowKit
def ticks:ByteArray:=⟨#[96,96,96]⟩
def shuts (l:List UInt8):Bool:=beginsS ⟨l.toArray⟩ ⟨#[96,96,96]⟩ && blankL (l.drop 3)
def shutAt (ls:List (List UInt8)) (k:Nat):Nat:=k+((ls.drop k).takeWhile (fun l=>!shuts l)).length
def codeOf (ls:List (List UInt8)):List UInt8:=ls.flatMap fun l=>l++[10]
def fencedN (ls:List (List UInt8)):Nat:=if shutAt ls 1 < ls.length then shutAt ls 1+1 else ls.length
def fencedT (ls:List (List UInt8)):List UInt8:=codeOf ((ls.take (shutAt ls 1)).drop 1)
theorem shut_lt (ls:List (List UInt8)) (n:Nat) (h:n < ls.length) (hb:shuts ls[n]=false):shutAt ls n=shutAt ls (n+1):=by
  unfold shutAt
  rw [List.drop_eq_getElem_cons h,List.takeWhile_cons,if_pos (by simp [hb])]
  simp
  omega
theorem shut_at (ls:List (List UInt8)) (n:Nat) (h:n < ls.length) (hb:shuts ls[n]=true):shutAt ls n=n:=by
  unfold shutAt
  rw [List.drop_eq_getElem_cons h,List.takeWhile_cons,if_neg (by simp [hb])]
  rfl
theorem shut_end (ls:List (List UInt8)) (n:Nat) (h:n=ls.length):shutAt ls n=n:=by
  unfold shutAt
  rw [List.drop_eq_nil_iff.2 (by omega)]
  rfl
theorem codeOf_snoc (ls:List (List UInt8)) (x:List UInt8):codeOf (ls++[x])=codeOf ls++(x++[10]):=by
  simp [codeOf]
theorem take_drop_snoc (ls:List (List UInt8)) (k:Nat) (h1:1≤k) (h:k < ls.length):(ls.take (k+1)).drop 1=(ls.take k).drop 1++[ls[k]]:=by
  rw [snoc_take ls k h,List.drop_append_of_le_length]
  rw [List.length_take]
  omega
theorem ext3 (l:List UInt8) (h:beginsS ⟨l.toArray⟩ ⟨#[96,96,96]⟩=true):3≤l.length:=by
  by_cases h3:3≤l.length
  · exact h3
  · have:=begins_short ⟨l.toArray⟩ ⟨#[96,96,96]⟩ (by rw [size_of];exact h3)
    rw [h] at this
    exact absurd this (by decide)
theorem ba_ext (l:List UInt8) (a b:Nat) (hb:b=l.length):(⟨l.toArray⟩:ByteArray).extract a b=⟨(l.drop a).toArray⟩:=by
  apply ByteArray.ext
  apply Array.ext'
  rw [Lib.extract_data,List.take_of_length_le (by simp [hb])]
set_option maxHeartbeats 2000000 in
theorem rfenced_any (g o cap:Nat) (ls:List (List UInt8)) (w:World) (hS:Strs g o cap ls w) (hM:Small 1073741824 ls) (hn:0 < ls.length) :
    Calls Tryz.prog 38 #[.slice (some ⟨g,o,none⟩) ls.length cap] w fun e w' =>
      ∃ v,e=.returned (.tuple #[v,.int .i64 (fencedN ls)])∧w'.ownsRow w.heap.size 83 4 v (leafS 5 0 (fencedT ls)).length (evCs (leafS 5 0 (fencedT ls)))∧Below w.heap.size w w':=by
  have hlen:=hM.1
  have HM:Hid (Small 1073741824 ls):=hM
  have HS:Hid (Strs g o cap ls w):=hS
  clear hM hS
  go_enter Tryz.func38,Tryz.ntmps38
  go_wp2
  go_loop [4,5] (fun t i=>∃ (k:Nat) (acc:List UInt8),1≤k∧k≤ls.length∧i=.int .i64 k∧t=.string ⟨acc.toArray⟩∧Hid (acc=codeOf ((ls.take k).drop 1)∧acc.length≤k * 1073741825)∧Hid (shutAt ls k=shutAt ls 1)) (fun _ i=>ls.length - (intOf i).toNat)
  case atStart=>exact ⟨1,[],Nat.le_refl _,by omega,rfl,rfl,⟨(by rw [List.drop_eq_nil_iff.2 (by rw [List.length_take];omega)];rfl),(by simp)⟩,(by show _=_;rfl)⟩
  case round =>
    obtain ⟨k,acc,hk1,hk,rfl,rfl,hJ,hP⟩:=hrel
    have hacc:acc.length≤2305843009213693952:=by
      have h1:=hJ.out.2
      have h2:k * 1073741825≤1073741824 * 1073741825:=Nat.mul_le_mul_right _ (by omega)
      have h3:(1073741824 * 1073741825:Nat)≤2305843009213693952:=by decide
      exact Nat.le_trans h1 (Nat.le_trans h2 h3)
    have hfin:Hid (shutAt ls 1=k)→Calls Tryz.prog 41 #[.int .i64 5,.int .i64 0,.string ⟨acc.toArray⟩] w fun e w'=>∃ v,e=.returned v∧w'.ownsRow w.heap.size 83 4 v (leafS 5 0 (fencedT ls)).length (evCs (leafS 5 0 (fencedT ls)))∧Below w.heap.size w w':=by
      intro h1
      have:fencedT ls=acc:=by rw [fencedT,h1.out,hJ.out.1]
      rw [this]
      exact rleaf_any 5 0 ⟨acc.toArray⟩ w
    by_cases hlt:k < ls.length
    · obtain ⟨l,hl⟩:∃ l,ls[k]=l:=⟨_,rfl⟩
      have hcell:=HS.out.cell k l (by rw [List.getElem?_eq_getElem hlt,hl])
      have hsz:l.length≤1073741824:=HM.out.2 l (by rw [← hl];exact List.getElem_mem hlt)
      have hs1:=size_of acc
      have hs2:=size_of l
      have hcb:=fun W=>begins_any ⟨l.toArray⟩ ⟨#[96,96,96]⟩ W
      have hcB:=fun W=>rBlank_any ⟨(l.drop 3).toArray⟩ W (by rw [size_of,List.length_drop];omega)
      have hbl:blankS ⟨(l.drop 3).toArray⟩=blankL (l.drop 3):=rfl
      rw [hbl] at hcB
      have hst:shuts l=(beginsS ⟨l.toArray⟩ ⟨#[96,96,96]⟩ && blankL (l.drop 3)):=rfl
      have he3:=ext3 l
      have hx:=ba_ext l 3 l.length rfl
      have hgo:shuts l=false→Hid (acc++(l++[10])=codeOf ((ls.take (k+1)).drop 1)∧(acc++(l++[10])).length≤(k+1) * 1073741825)∧Hid (shutAt ls (k+1)=shutAt ls 1):=by
        intro hno
        refine ⟨⟨?_,?_⟩,?_⟩
        · rw [take_drop_snoc ls k hk1 hlt,codeOf_snoc,← hJ.out.1,hl]
        · have:=hJ.out.2
          simp only [List.length_append,List.length_singleton]
          omega
        · show _=_
          rw [← shut_lt ls k hlt (by rw [hl];exact hno),hP.out]
      have hgone:shuts l=true→Hid (shutAt ls 1=k∧fencedN ls=k+1):=by
        intro hyes
        have h1:shutAt ls 1=k:=by rw [← hP.out];exact shut_at ls k hlt (by rw [hl];exact hyes)
        exact ⟨h1,by rw [fencedN,h1,if_pos hlt]⟩
      generalize beginsS ⟨l.toArray⟩ ⟨#[96,96,96]⟩=fv at hcb hst he3
      generalize blankL (l.drop 3)=bv at hcB hst
      clear hbl hl
      cases fv with
      | false =>
        obtain ⟨hg1,hg2⟩:=hgo (by rw [hst];rfl)
        clear hgo hgone hfin hst he3 hx hcB
        go_wp2_with (go_at_call 64;refine (hcb _).mono ?_;rintro e w' ⟨rfl,hw⟩;rw [hw];clear hw)
        go_round
        case rel=>exact ⟨k+1,_,by omega,by omega,by go_num,congrArg Value.string (ba3 acc l [10]),hg1,hg2⟩
        case measure=>simp [intOf];omega
      | true =>
        have h3:=he3 rfl
        rw [← hx] at hcB
        cases bv with
        | false =>
          obtain ⟨hg1,hg2⟩:=hgo (by rw [hst];rfl)
          clear hgo hgone hfin hst he3 hx
          go_wp2_with (first | (go_at_call 64;refine (hcb _).mono ?_;rintro e w' ⟨rfl,hw⟩;rw [hw];clear hw) | (go_at_call 36;refine (hcB _).mono ?_;rintro e w' ⟨rfl,hw⟩;rw [hw];clear hw))
          go_round
          case rel=>exact ⟨k+1,_,by omega,by omega,by go_num,congrArg Value.string (ba3 acc l [10]),hg1,hg2⟩
          case measure=>simp [intOf];omega
        | true =>
          have hg:=hgone (by rw [hst];rfl)
          have hF2:=hfin hg.out.1
          have HN:Hid (fencedN ls=k+1):=hg.out.2
          clear hgo hgone hfin hst he3 hx
          go_wp2_with (first | (go_at_call 64;refine (hcb _).mono ?_;rintro e w' ⟨rfl,hw⟩;rw [hw];clear hw) | (go_at_call 36;refine (hcB _).mono ?_;rintro e w' ⟨rfl,hw⟩;rw [hw];clear hw) | (go_at_call 41;refine hF2.mono ?_;rintro e w' ⟨v,rfl,hown,hb⟩))
          go_ret2
          rw [HN.out]
          exact ⟨v,(by go_num),hown,hb⟩
    · have HF:Hid (shutAt ls 1=k):=by
        show _=_
        rw [← hP.out]
        exact shut_end ls k (by omega)
      have HN:Hid (fencedN ls=ls.length):=by
        show _=_
        rw [fencedN,HF.out,if_neg hlt]
      have hF2:=hfin HF
      clear hfin
      go_wp2_with (go_at_call 41;refine hF2.mono ?_;rintro e w' ⟨v,rfl,hown,hb⟩)
      go_ret2
      rw [HN.out]
      exact ⟨v,rfl,hown,hb⟩
end Go.Proofs.YtljcljipppjnoaaGreatDoor
namespace Go.Proofs.YtljcljipppjnoaaGreatDoor
open Go.RowKit
theorem grown_refl (w:World) (r:Option Nat):w.grownBy w r:=⟨rfl,rfl,rfl,Nat.le_refl _,fun _ _ _=>rfl⟩
theorem run_append_row {P:Program} (w:World) (base base2:Nat) (t ty e:TypeId) (i:TypeInfo) (z:Value) (size bytes:Nat) (ht:P.underlying t=some (.slice e)) (hi:P.info? e=some i) (hz:i.zero=some z)
    (hsize:i.size=size) (hby:i.bytes=bytes) (hzs:z.cells.size=size) (hsz:0 < size)
    (v:Value) (n:Nat) (xs:List Value) (hown:w.ownsRow base e size v n xs)
    (u:Value) (m:Nat) (news:List Value) (hu:w.ownsRow base2 e size u m news) (h1:∀ c ∈ news,c.oneCell'=true)
    (h63:n+m≤maxLen) (hbytes:(n+m) * bytes≤140737488355328) (hbase:base≤w.heap.size) :
    ∃ v' w',(Builtin.append_ #[t,t] ty #[v,u]).run P w=.ok v' w'∧w'.ownsRow base e size v' (n+m) (xs++news)∧w.grownBy w' v.ownBlock:=by
  rcases Joins.ownsRow_forms hu with ⟨rfl,rfl⟩ | ⟨g2,cap2,rfl⟩
  · have hn:news=[]:=List.eq_nil_of_length_eq_zero (by simpa using hu.1)
    subst hn
    rw [Nat.add_zero,List.append_nil]
    rcases Joins.ownsRow_forms hown with ⟨rfl,rfl⟩ | ⟨g,cap,rfl⟩
    · refine ⟨.slice none 0 0,w,?_,hown,grown_refl _ _⟩
      simp [Builtin.append_,run_underlying ht,sizeOf,typeInfo,hi,Builtin.lenOf,Builtin.firstCells]
    · have hnc:n≤cap:=by
        rcases hown.2 with ⟨hh,_⟩ | ⟨g',cap',cur,hv,_,_,hnc,_⟩
        · cases hh
        · cases hv;exact hnc
      have hr:=run_append_room_src (P:=P) w t t ty e i ht hi g 0 n cap (.slice none 0 0) 0 [] (Src.ofNil w ht 0) (by omega) (fun j hj=>absurd hj (by simp)) (fun j hj=>absurd hj (by simp))
      exact ⟨_,_,hr,hown,grown_refl _ _⟩
  · obtain ⟨v',w',hr,h2,h3,_⟩:=run_append_own (P:=P) w base t ty e i z size bytes ht hi hz hsize hby hzs hsz v n xs hown ⟨g2,0,none⟩ m cap2 news hu.1 (hu.cells (g:=g2) rfl) h1 h63 hbytes hbase
    exact ⟨v',w',hr,h2,h3⟩
theorem wpList_append_row {P:Program} (w:World) {ops:Array Oper} {rest:List Oper} {o:Oper} {a:Act} {Q:Exit→Act→World→Prop} (hgd:o.guard=none) (s x:Operand) (t:TypeId)
    (ho:o.op=.call { callee:=.builtin .append,args:=#[s,x],argTypes:=#[t,t] })
    (base base2:Nat) (e:TypeId) (i:TypeInfo) (z:Value) (size bytes:Nat) (ht:P.underlying t=some (.slice e)) (hi:P.info? e=some i) (hz:i.zero=some z)
    (hsize:i.size=size) (hby:i.bytes=bytes) (hzs:z.cells.size=size) (hsz:0 < size)
    (v:Value) (n:Nat) (xs:List Value) (hs:a.eval s=v) (hown:w.ownsRow base e size v n xs)
    (u:Value) (m:Nat) (news:List Value) (hx:a.eval x=u) (hu:w.ownsRow base2 e size u m news) (h1:∀ c ∈ news,c.oneCell'=true)
    (h63:n+m≤maxLen) (hbytes:(n+m) * bytes≤140737488355328) (hbase:base≤w.heap.size)
    (h:∀ v' w',w'.ownsRow base e size v' (n+m) (xs++news)→w.grownBy w' v.ownBlock→wpList P ops Q rest (a.put o.dst v') w'):wpList P ops Q (o :: rest) a w:=by
  refine wpList_plain hgd fun _ hK=>?_
  obtain ⟨v',w',hr,h2,h3⟩:=run_append_row (P:=P) w base base2 t o.type e i z size bytes ht hi hz hsize hby hzs hsz v n xs hown u m news hu h1 h63 hbytes hbase
  unfold Oper.wp execOp
  simp only [ho,resolve,invoke,builtin,Sem.run_bind,Sem.run_pure,Result.andThen_ok,List.map_toArray,List.map_cons,List.map_nil,hs,hx,hr]
  exact hK _ _ (h v' w' h2 h3)
theorem evCs_one' (l:List Ev):∀ c ∈ evCs l,c.oneCell'=true:=by
  intro c hc
  simp only [evCs,List.mem_flatMap] at hc
  obtain ⟨e,_,he⟩:=hc
  exact ev_one e c he
def LinesV (v:Value) (ls:List (List UInt8)) (w:World):Prop :=
  (ls=[]∧v=.slice none 0 0)∨∃ g o cap,v=.slice (some ⟨g,o,none⟩) ls.length cap∧Strs g o cap ls w
theorem lines_own {w:World} {base:Nat} {t:TypeId} {v:Value} {ls:List (List UInt8)} (h:w.ownsRow base t 1 v ls.length (strCs ls)):LinesV v ls w:=by
  rcases h.2 with ⟨hv,h0⟩ | ⟨g,cap,cur,hv,hb,hg,hnc,hcm,hcs,ht⟩
  · exact Or.inl ⟨List.eq_nil_of_length_eq_zero h0,hv⟩
  · refine Or.inr ⟨g,0,cap,hv,hnc,by simp only [maxLen] at hcm;omega,?_,?_⟩
    · rcases Nat.lt_or_ge g w.heap.size with hlt | hge
      · exact hlt
      · rw [Array.getElem?_eq_none hge] at hg;cases hg
    · intro j l hj
      have hc:=h.cells (g:=g) (by rw [hv];rfl) j (.string ⟨l.toArray⟩) (by simp [strCs,hj])
      rw [Addr.add_lit] at hc
      exact hc
theorem Strs.drop {g o cap:Nat} {ls:List (List UInt8)} {w:World} (h:Strs g o cap ls w) (n:Nat) (hn:n≤ls.length):Strs g (o+n) (cap - n) (ls.drop n) w:=by
  have hf:=h.fits
  have hm:=h.max
  refine ⟨by rw [List.length_drop];omega,by omega,h.lt,?_⟩
  intro j l hj
  rw [List.getElem?_drop] at hj
  have:=h.cell (n+j) l hj
  rw [← Nat.add_assoc] at this
  exact this
theorem Small.drop {M:Nat} {ls:List (List UInt8)} (h:Small M ls) (n:Nat):Small M (ls.drop n) :=
  ⟨by have:=h.1;rw [List.length_drop];omega,fun l hl=>h.2 l (List.mem_of_mem_drop hl)⟩
end Go.Proofs.YtljcljipppjnoaaGreatDoor
namespace Go.Proofs.YtljcljipppjnoaaGreatDoor
open Go.RowKit
def scan (p:List UInt8→Bool) (ls:List (List UInt8)) (n:Nat):Nat:=n+((ls.drop n).takeWhile p).length
theorem scan_lt (p:List UInt8→Bool) (ls:List (List UInt8)) (n:Nat) (h:n < ls.length) (hb:p ls[n]=true):scan p ls n=scan p ls (n+1):=by
  unfold scan
  rw [List.drop_eq_getElem_cons h,List.takeWhile_cons,if_pos hb]
  simp
  omega
theorem scan_at (p:List UInt8→Bool) (ls:List (List UInt8)) (n:Nat) (h:n < ls.length) (hb:p ls[n]=false):scan p ls n=n:=by
  unfold scan
  rw [List.drop_eq_getElem_cons h,List.takeWhile_cons,if_neg (by simp [hb])]
  rfl
theorem scan_end (p:List UInt8→Bool) (ls:List (List UInt8)) (n:Nat) (h:n=ls.length):scan p ls n=n:=by
  unfold scan
  rw [List.drop_eq_nil_iff.2 (by omega)]
  rfl
def isQ:List UInt8→Bool
  | []=>false
  | c :: _=>c == 62
def unq1:List UInt8→List UInt8
  | []=>[]
  | c :: r=>if c == 32 then r else c :: r
def unq (l:List UInt8):List UInt8:=unq1 (l.drop 1)
def quoteN (ls:List (List UInt8)):Nat:=scan isQ ls 0
def quoteIn (ls:List (List UInt8)):List (List UInt8):=(ls.take (quoteN ls)).map unq
def quoteS (inner:List (List UInt8)→List Ev) (ls:List (List UInt8)):List Ev:=[⟨2,false,0,[]⟩]++inner (quoteIn ls)++[⟨2,true,0,[]⟩]
def BlocksC (d:Int) (inner:List (List UInt8)→List Ev):Prop :=
  ∀ (v:Value) (ls:List (List UInt8)) (w:World),LinesV v ls w→Small 1073741824 ls→Calls Tryz.prog 15 #[v,.int .i64 d] w fun e w'=>∃ v',e=.returned v'∧w'.ownsRow w.heap.size 83 4 v' (inner ls).length (evCs (inner ls))∧Below w.heap.size w w'
theorem own_below {w w':World} {base B size n:Nat} {e:TypeId} {v:Value} {xs:List Value} (h:w.ownsRow base e size v n xs) (hb:Below B w w') (hB:w.heap.size≤B):w'.ownsRow base e size v n xs:=by
  refine ⟨h.1,?_⟩
  rcases h.2 with h0 | ⟨g,cap,cur,hv,hg,hh,r⟩
  · exact Or.inl h0
  · refine Or.inr ⟨g,cap,cur,hv,hg,?_,r⟩
    rw [hb.block g,hh]
    have:g < w.heap.size:=by
      rcases Nat.lt_or_ge g w.heap.size with hlt | hge
      · exact hlt
      · rw [Array.getElem?_eq_none hge] at hh;cases hh
    omega
theorem bytes_of (b:ByteArray) (l:List UInt8) (h:b.data.toList=l):b=⟨l.toArray⟩:=by
  apply ByteArray.ext
  apply Array.ext'
  simpa using h
theorem unq_le (l:List UInt8):(unq l).length≤l.length:=by
  unfold unq
  have h:(l.drop 1).length≤l.length:=by rw [List.length_drop];omega
  cases hd:l.drop 1 with
  | nil=>simp [unq1]
  | cons c r =>
    rw [hd,List.length_cons] at h
    simp only [unq1]
    split
    · omega
    · simp only [List.length_cons];omega
theorem quote_small {M:Nat} {ls:List (List UInt8)} (h:Small M ls) (k:Nat):Small M ((ls.take k).map unq):=by
  refine ⟨by have:=h.1;rw [List.length_map,List.length_take];omega,?_⟩
  intro l hl
  obtain ⟨x,hx,rfl⟩:=List.mem_map.1 hl
  have:=h.2 x (List.mem_of_mem_take hx)
  have:=unq_le x
  omega
theorem quote_len (inner:List (List UInt8)→List Ev) (ls:List (List UInt8)):(quoteS inner ls).length=1+(inner (quoteIn ls)).length+1:=by
  simp [quoteS];omega
theorem quote_cells (inner:List (List UInt8)→List Ev) (ls:List (List UInt8)):evCs (quoteS inner ls)=evCs [⟨2,false,0,[]⟩]++(evCs (inner (quoteIn ls))++evCells ⟨2,true,0,[]⟩):=by
  rw [quoteS,evCs_append,evCs_append,evCs_one ⟨2,true,0,[]⟩,List.append_assoc]
set_option maxRecDepth 100000 in
set_option maxHeartbeats 4000000 in
theorem rquoted_any (inner:List (List UInt8)→List Ev) (depth:Int) (hd:0≤depth∧depth < 3) (hB:BlocksC (depth+1) inner) (hI:∀ ls,(inner ls).length≤16 * ls.length)
    (g o cap:Nat) (ls:List (List UInt8)) (w:World) (hS:Strs g o cap ls w) (hM:Small 1073741824 ls) :
    Calls Tryz.prog 42 #[.slice (some ⟨g,o,none⟩) ls.length cap,.int .i64 depth] w fun e w' =>
      ∃ v,e=.returned (.tuple #[v,.int .i64 (quoteN ls)])∧w'.ownsRow w.heap.size 83 4 v (quoteS inner ls).length (evCs (quoteS inner ls))∧Below w.heap.size w w':=by
  have hlen:=hM.1
  have HM:Hid (Small 1073741824 ls):=hM
  have HS:Hid (Strs g o cap ls w):=hS
  have hglt:=hS.lt
  have HI:Hid (∀ ls,(inner ls).length≤16 * ls.length):=hI
  have HB:Hid (BlocksC (depth+1) inner):=hB
  clear hM hS hI hB
  obtain ⟨hd1,hd2⟩:=hd
  obtain ⟨i0,hi,hz0,hz1,hz2⟩:=info_parts Tryz.infoStr
  obtain ⟨j0,hj,hy0,hy1,hy2⟩:=info_parts Tryz.infoEv
  go_enter Tryz.func42,Tryz.ntmps42
  go_wp2
  go_loopw [6,7] (fun v i wr=>∃ k:Nat,k≤ls.length∧i=.int .i64 k∧wr.ownsRow w.heap.size 9 1 v k (strCs ((ls.take k).map unq))∧Below w.heap.size w wr∧Hid (scan isQ ls k=quoteN ls)) (fun _ i _=>ls.length - (intOf i).toNat)
  case atStart=>exact ⟨0,Nat.zero_le _,rfl,(by simpa [strCs] using World.ownsRow_nil _ _ _ _),Below.refl _ _,(by show _=_;rfl)⟩
  case round =>
    obtain ⟨k,hk,rfl,hown,hbel,hP⟩:=hrel
    have hbs:=hbel.size
    have hend:quoteN ls=k→Hid (∀ W v2,w.heap.size≤W.heap.size→W.ownsRow w.heap.size 9 1 v2 k (strCs ((ls.take k).map unq))→Calls Tryz.prog 15 #[v2,.int .i64 (depth+1)] W fun e w'=>∃ v',e=.returned v'∧w'.ownsRow W.heap.size 83 4 v' (inner (quoteIn ls)).length (evCs (inner (quoteIn ls)))∧Below W.heap.size W w'):=by
      intro hq W v2 hW ho
      have hl:((ls.take k).map unq).length=k:=by rw [List.length_map,List.length_take];omega
      have:=HB.out v2 ((ls.take k).map unq) W (lines_own (by rw [hl];exact ho)) (quote_small HM.out k)
      rw [quoteIn,hq]
      exact this
    have hbnd:quoteN ls=k→(inner (quoteIn ls)).length≤16 * k:=by
      intro hq
      have:=HI.out (quoteIn ls)
      rw [quoteIn,hq,List.length_map,List.length_take] at this
      rw [quoteIn,hq]
      omega
    by_cases hlt:k < ls.length
    · obtain ⟨l,hl⟩:∃ l,ls[k]=l:=⟨_,rfl⟩
      obtain ⟨b,hb⟩:∃ b:ByteArray,b=⟨l.toArray⟩:=⟨_,rfl⟩
      have hcell:=(HS.out.below hbel hglt).cell k l (by rw [List.getElem?_eq_getElem hlt,hl])
      rw [← hb] at hcell
      have hbl:b.data.toList=l:=by rw [hb]
      have hsz:b.size≤1073741824:=by rw [hb,size_of];exact HM.out.2 l (by rw [← hl];exact List.getElem_mem hlt)
      have hgo:isQ l=true→Hid (scan isQ ls (k+1)=quoteN ls):=by
        intro hq
        show _=_
        rw [← scan_lt isQ ls k hlt (by rw [hl];exact hq),hP.out]
      have hst:isQ l=false→quoteN ls=k:=by
        intro hq
        rw [← hP.out]
        exact scan_at isQ ls k hlt (by rw [hl];exact hq)
      have htk:Hid (strCs ((ls.take (k+1)).map unq)=strCs ((ls.take k).map unq)++[.string ⟨(unq l).toArray⟩]):=by
        show _=_
        rw [snoc_take ls k hlt,hl]
        simp [strCs]
      by_cases hq:∃ h0:0 < b.size,b[0]=62
      · obtain ⟨h0,h62⟩:=hq
        have hl1:l=62 :: (b.extract 1 b.size).data.toList:=by rw [← hbl,ext_tail b h0,h62]
        have HP2:=hgo (by rw [hl1];rfl)
        have k1:((b[0].toNat:Int) == 62)=true:=by rw [h62];rfl
        have hu:unq l=unq1 (b.extract 1 b.size).data.toList:=by rw [hl1];rfl
        have hxs:(b.extract 1 b.size).size=b.size - 1:=by simp
        clear hgo hst hend hbnd hl1 hbl hl h62 hb
        obtain ⟨s,hs⟩:∃ s,b.extract 1 b.size=s:=⟨_,rfl⟩
        by_cases hq2:∃ h1:0 < s.size,s[0]=32
        · obtain ⟨h1,h32⟩:=hq2
          have HN:Hid (strCs ((ls.take (k+1)).map unq)=strCs ((ls.take k).map unq)++[.string (s.extract 1 s.size)]):=by
            show _=_
            rw [htk.out]
            have:unq l=(s.extract 1 s.size).data.toList:=by
              rw [hu,hs,ext_tail s h1,h32]
              simp [unq1]
            rw [this,← bytes_of _ _ rfl]
          have k2:((s[0].toNat:Int) == 32)=true:=by rw [h32];rfl
          have h1':1 < b.size:=by rw [hs] at hxs;omega
          clear hu htk h32 hP
          subst hs
          go_wp2_with (at_builtin;refine wpList_append_own _ rfl _ _ 25 rfl w.heap.size 9 i0 (.string ⟨#[]⟩) 1 16 Tryz.underlying25 hi hz0 hz1 hz2 rfl (by decide) _ _ _ rfl (hown.alloc _) ⟨wr.heap.size,0,none⟩ 1 1 [.string ((b.extract 1 b.size).extract 1 (b.extract 1 b.size).size)] rfl rfl ?c1 ?c2 ?c3 ?c4 ?c5 ?_)
          case c1 =>
            intro j u hj
            match j,hj with
            | 0,hj=>simp at hj;subst hj;simp [Addr.add]
          case c2=>intro u hu;simp at hu;subst hu;rfl
          case c3=>unfold maxLen;omega
          case c4=>omega
          case c5=>simp;omega
          intro v' w1 hown' hgrow _
          go_wp2
          go_roundw
          case rel =>
            refine ⟨k+1,by omega,by go_num,?_,(hbel.alloc hbs _).grown hgrow (by simp;omega) (fun b hb=>(hown.lt b hb).1),HP2⟩
            rw [HN.out]
            simpa [strCs] using hown'
          case measure=>simp [intOf];omega
        · have HN:Hid (strCs ((ls.take (k+1)).map unq)=strCs ((ls.take k).map unq)++[.string s]):=by
            show _=_
            rw [htk.out]
            have:unq l=s.data.toList:=by
              rw [hu,hs]
              by_cases h1:0 < s.size
              · rw [ext_tail s h1]
                have:¬ s[0]=32:=fun h=>hq2 ⟨h1,h⟩
                simp [unq1,this]
              · have:s.data.toList=[]:=by
                  rw [← List.length_eq_zero_iff,Array.length_toList]
                  show s.size=0
                  omega
                rw [this]
                rfl
            rw [this,← bytes_of _ _ rfl]
          have hz:∀ h1:0 < s.size,((s[0].toNat:Int) == 32)=false:=by
            intro h1
            exact (u8_eq s[0] 32).trans (beq_eq_false_iff_ne.2 fun h=>hq2 ⟨h1,h⟩)
          clear hu htk hq2 hP
          by_cases h1:0 < s.size
          · have k2:=hz h1
            clear hz
            subst hs
            go_wp2_with (at_builtin;refine wpList_append_own _ rfl _ _ 25 rfl w.heap.size 9 i0 (.string ⟨#[]⟩) 1 16 Tryz.underlying25 hi hz0 hz1 hz2 rfl (by decide) _ _ _ rfl (hown.alloc _) ⟨wr.heap.size,0,none⟩ 1 1 [.string (b.extract 1 b.size)] rfl rfl ?c1 ?c2 ?c3 ?c4 ?c5 ?_)
            case c1 =>
              intro j u hj
              match j,hj with
              | 0,hj=>simp at hj;subst hj;simp [Addr.add]
            case c2=>intro u hu;simp at hu;subst hu;rfl
            case c3=>unfold maxLen;omega
            case c4=>omega
            case c5=>simp;omega
            intro v' w1 hown' hgrow _
            go_wp2
            go_roundw
            case rel =>
              refine ⟨k+1,by omega,by go_num,?_,(hbel.alloc hbs _).grown hgrow (by simp;omega) (fun b hb=>(hown.lt b hb).1),HP2⟩
              rw [HN.out]
              simpa [strCs] using hown'
            case measure=>simp [intOf];omega
          · clear hz
            subst hs
            go_wp2_with (at_builtin;refine wpList_append_own _ rfl _ _ 25 rfl w.heap.size 9 i0 (.string ⟨#[]⟩) 1 16 Tryz.underlying25 hi hz0 hz1 hz2 rfl (by decide) _ _ _ rfl (hown.alloc _) ⟨wr.heap.size,0,none⟩ 1 1 [.string (b.extract 1 b.size)] rfl rfl ?c1 ?c2 ?c3 ?c4 ?c5 ?_)
            case c1 =>
              intro j u hj
              match j,hj with
              | 0,hj=>simp at hj;subst hj;simp [Addr.add]
            case c2=>intro u hu;simp at hu;subst hu;rfl
            case c3=>unfold maxLen;omega
            case c4=>omega
            case c5=>simp;omega
            intro v' w1 hown' hgrow _
            go_wp2
            go_roundw
            case rel =>
              refine ⟨k+1,by omega,by go_num,?_,(hbel.alloc hbs _).grown hgrow (by simp;omega) (fun b hb=>(hown.lt b hb).1),HP2⟩
              rw [HN.out]
              simpa [strCs] using hown'
            case measure=>simp [intOf];omega
      · have hqn:quoteN ls=k:=hst (by
          cases hc:l with
          | nil=>rfl
          | cons c r =>
            show (c == 62)=false
            have h0:0 < b.size:=by rw [hb,size_of,hc];simp
            have:=ext_tail b h0
            rw [hbl,hc] at this
            injection this with h1 h2
            rw [h1,beq_eq_false_iff_ne]
            exact fun h=>hq ⟨h0,h⟩)
        have hEnd:=hend hqn
        have hBnd:=hbnd hqn
        clear hend hbnd hgo hst htk hbl hl hb hP
        have hq':∀ h0:0 < b.size,((b[0].toNat:Int) == 62)=false:=by
          intro h0
          exact (u8_eq b[0] 62).trans (beq_eq_false_iff_ne.2 fun h=>hq ⟨h0,h⟩)
        clear hq
        by_cases h0:0 < b.size
        · have k1:=hq' h0
          clear hq'
          have oL:=own_lit wr ⟨2,false,0,[]⟩ 83
          go_wp2_with (first | (go_at_call 15;refine (hEnd.out _ _ (by simp;omega) (hown.alloc _)).mono ?_;rintro e w1 ⟨vb,rfl,ownb,belb⟩) | (at_builtin;refine wpList_append_row _ rfl _ _ 27 rfl w.heap.size w.heap.size 83 j0 (.agg #[.int .i64 0,.bool false,.int .i64 0,.string ⟨#[]⟩]) 4 40 Tryz.underlying27 hj hy0 hy1 hy2 rfl (by decide) _ 1 (evCs [⟨2,false,0,[]⟩]) rfl (Joins.ownsRow_le (own_below oL belb (Nat.le_refl _)) hbs) _ _ _ rfl (Joins.ownsRow_le ownb (by simp;omega)) (evCs_one' _) ?c3 ?c4 ?c5 ?_))
          case c3=>unfold maxLen;omega
          case c4=>omega
          case c5=>have:=belb.size;simp at this;omega
          intro v2 w2 own2 grow2
          have z1:=belb.size
          simp at z1
          have b1:Below w.heap.size w w1:=(hbel.alloc hbs _).trans (belb.mono (by simp;omega))
          have b2:Below w.heap.size w w2:=b1.grown grow2 (by omega) (fun b hb=>(Joins.ownsRow_le (own_below oL belb (Nat.le_refl _)) hbs).lt b hb |>.1)
          have z2:=b2.size
          go_wp2_with (at_builtin;refine wpList_append_own _ rfl _ _ 27 rfl w.heap.size 83 j0 (.agg #[.int .i64 0,.bool false,.int .i64 0,.string ⟨#[]⟩]) 4 40 Tryz.underlying27 hj hy0 hy1 hy2 rfl (by decide) _ _ _ rfl (own2.alloc _) ⟨w2.heap.size,0,none⟩ 1 1 (evCells ⟨2,true,0,[]⟩) rfl rfl ?d1 (ev_one _) ?d3 ?d4 ?d5 ?_)
          case d1=>exact ev_cell _ _ _ (by simp)
          case d3=>unfold maxLen;omega
          case d4=>omega
          case d5=>simp;omega
          intro v3 w3 own3 grow3 _
          go_wp2
          go_ret2
          refine ⟨v3,by subst hqn;rfl,?_,(b2.alloc z2 _).grown grow3 (by simp;omega) (fun b hb=>(own2.lt b hb).1)⟩
          rw [quote_len,quote_cells]
          first | exact own3 | (simpa only [List.append_assoc] using own3)
        · clear hq'
          have oL:=own_lit wr ⟨2,false,0,[]⟩ 83
          go_wp2_with (first | (go_at_call 15;refine (hEnd.out _ _ (by simp;omega) (hown.alloc _)).mono ?_;rintro e w1 ⟨vb,rfl,ownb,belb⟩) | (at_builtin;refine wpList_append_row _ rfl _ _ 27 rfl w.heap.size w.heap.size 83 j0 (.agg #[.int .i64 0,.bool false,.int .i64 0,.string ⟨#[]⟩]) 4 40 Tryz.underlying27 hj hy0 hy1 hy2 rfl (by decide) _ 1 (evCs [⟨2,false,0,[]⟩]) rfl (Joins.ownsRow_le (own_below oL belb (Nat.le_refl _)) hbs) _ _ _ rfl (Joins.ownsRow_le ownb (by simp;omega)) (evCs_one' _) ?c3 ?c4 ?c5 ?_))
          case c3=>unfold maxLen;omega
          case c4=>omega
          case c5=>have:=belb.size;simp at this;omega
          intro v2 w2 own2 grow2
          have z1:=belb.size
          simp at z1
          have b1:Below w.heap.size w w1:=(hbel.alloc hbs _).trans (belb.mono (by simp;omega))
          have b2:Below w.heap.size w w2:=b1.grown grow2 (by omega) (fun b hb=>(Joins.ownsRow_le (own_below oL belb (Nat.le_refl _)) hbs).lt b hb |>.1)
          have z2:=b2.size
          go_wp2_with (at_builtin;refine wpList_append_own _ rfl _ _ 27 rfl w.heap.size 83 j0 (.agg #[.int .i64 0,.bool false,.int .i64 0,.string ⟨#[]⟩]) 4 40 Tryz.underlying27 hj hy0 hy1 hy2 rfl (by decide) _ _ _ rfl (own2.alloc _) ⟨w2.heap.size,0,none⟩ 1 1 (evCells ⟨2,true,0,[]⟩) rfl rfl ?d1 (ev_one _) ?d3 ?d4 ?d5 ?_)
          case d1=>exact ev_cell _ _ _ (by simp)
          case d3=>unfold maxLen;omega
          case d4=>omega
          case d5=>simp;omega
          intro v3 w3 own3 grow3 _
          go_wp2
          go_ret2
          refine ⟨v3,by subst hqn;rfl,?_,(b2.alloc z2 _).grown grow3 (by simp;omega) (fun b hb=>(own2.lt b hb).1)⟩
          rw [quote_len,quote_cells]
          first | exact own3 | (simpa only [List.append_assoc] using own3)
    · have hqn:quoteN ls=k:=by
        rw [← hP.out]
        exact scan_end isQ ls k (by omega)
      have hEnd:=hend hqn
      have hBnd:=hbnd hqn
      clear hend hbnd hP
      have oL:=own_lit wr ⟨2,false,0,[]⟩ 83
      go_wp2_with (first | (go_at_call 15;refine (hEnd.out _ _ (by simp;omega) (hown.alloc _)).mono ?_;rintro e w1 ⟨vb,rfl,ownb,belb⟩) | (at_builtin;refine wpList_append_row _ rfl _ _ 27 rfl w.heap.size w.heap.size 83 j0 (.agg #[.int .i64 0,.bool false,.int .i64 0,.string ⟨#[]⟩]) 4 40 Tryz.underlying27 hj hy0 hy1 hy2 rfl (by decide) _ 1 (evCs [⟨2,false,0,[]⟩]) rfl (Joins.ownsRow_le (own_below oL belb (Nat.le_refl _)) hbs) _ _ _ rfl (Joins.ownsRow_le ownb (by simp;omega)) (evCs_one' _) ?c3 ?c4 ?c5 ?_))
      case c3=>unfold maxLen;omega
      case c4=>omega
      case c5=>have:=belb.size;simp at this;omega
      intro v2 w2 own2 grow2
      have z1:=belb.size
      simp at z1
      have b1:Below w.heap.size w w1:=(hbel.alloc hbs _).trans (belb.mono (by simp;omega))
      have b2:Below w.heap.size w w2:=b1.grown grow2 (by omega) (fun b hb=>(Joins.ownsRow_le (own_below oL belb (Nat.le_refl _)) hbs).lt b hb |>.1)
      have z2:=b2.size
      go_wp2_with (at_builtin;refine wpList_append_own _ rfl _ _ 27 rfl w.heap.size 83 j0 (.agg #[.int .i64 0,.bool false,.int .i64 0,.string ⟨#[]⟩]) 4 40 Tryz.underlying27 hj hy0 hy1 hy2 rfl (by decide) _ _ _ rfl (own2.alloc _) ⟨w2.heap.size,0,none⟩ 1 1 (evCells ⟨2,true,0,[]⟩) rfl rfl ?d1 (ev_one _) ?d3 ?d4 ?d5 ?_)
      case d1=>exact ev_cell _ _ _ (by simp)
      case d3=>unfold maxLen;omega
      case d4=>omega
      case d5=>simp;omega
      intro v3 w3 own3 grow3 _
      go_wp2
      go_ret2
      refine ⟨v3,by subst hqn;rfl,?_,(b2.alloc z2 _).grown grow3 (by simp;omega) (fun b hb=>(own2.lt b hb).1)⟩
      rw [quote_len,quote_cells]
      first | exact own3 | (simpa only [List.append_assoc] using own3)
end Go.Proofs.YtljcljipppjnoaaGreatDoor
namespace Go.Proofs.YtljcljipppjnoaaGreatDoor
open Go.RowKit
theorem behind_ge (ls:List (List UInt8)) (n:Nat):n≤behindS ls n:=by unfold behindS;omega
theorem behind_le (ls:List (List UInt8)) (n:Nat) (h:n≤ls.length):behindS ls n≤ls.length:=by
  unfold behindS
  have:=(List.takeWhile_sublist (l:=ls.drop n) blankL).length_le
  rw [List.length_drop] at this
  omega
def two (l:List UInt8):Bool:=beginsS ⟨l.toArray⟩ ⟨#[32,32]⟩
def itemL (l:List UInt8):Bool:=itemS ⟨l.toArray⟩
def moreAt (ls:List (List UInt8)) (n:Nat):List (List UInt8) × Nat :=
  if h:behindS ls n < ls.length then
    if two ls[behindS ls n]=true then (List.replicate (behindS ls n - n) []++ls[behindS ls n].drop 2 :: (moreAt ls (behindS ls n+1)).1,(moreAt ls (behindS ls n+1)).2)
    else ([],n)
  else ([],n)
termination_by ls.length - n
decreasing_by all_goals (have:=behind_ge ls n;omega)
theorem more_go (ls:List (List UInt8)) (n k:Nat) (hk:behindS ls n=k) (h:k < ls.length) (h2:two ls[k]=true) :
    moreAt ls n=(List.replicate (k - n) []++ls[k].drop 2 :: (moreAt ls (k+1)).1,(moreAt ls (k+1)).2):=by
  subst hk
  rw [moreAt,dif_pos h,if_pos h2]
theorem more_no (ls:List (List UInt8)) (n k:Nat) (hk:behindS ls n=k) (h:k < ls.length) (h2:two ls[k]=false):moreAt ls n=([],n):=by
  subst hk
  rw [moreAt,dif_pos h,if_neg (by simp [h2])]
theorem more_end (ls:List (List UInt8)) (n k:Nat) (hk:behindS ls n=k) (h:¬ k < ls.length):moreAt ls n=([],n):=by
  subst hk
  rw [moreAt,dif_neg h]
theorem more_facts (ls:List (List UInt8)) (n:Nat) (hn:n≤ls.length):n≤(moreAt ls n).2∧(moreAt ls n).2≤ls.length∧(moreAt ls n).1.length=(moreAt ls n).2 - n∧∀ M,Small M ls→∀ l ∈ (moreAt ls n).1,l.length≤M:=by
  induction hm:ls.length - n using Nat.strongRecOn generalizing n with
  | _ m ih =>
    have hge:=behind_ge ls n
    by_cases h:behindS ls n < ls.length
    · cases h2:two ls[behindS ls n] with
      | true =>
        obtain ⟨a1,a2,a3,a4⟩:=ih (ls.length - (behindS ls n+1)) (by omega) (behindS ls n+1) (by omega) rfl
        rw [more_go ls n _ rfl h h2]
        refine ⟨by simp only;omega,a2,?_,?_⟩
        · simp only [List.length_append,List.length_replicate,List.length_cons,a3]
          omega
        · intro M hM l hl
          simp only [List.mem_append,List.mem_replicate,List.mem_cons] at hl
          rcases hl with ⟨_,rfl⟩ | rfl | hl
          · simp
          · have:=hM.2 ls[behindS ls n] (List.getElem_mem h)
            rw [List.length_drop]
            omega
          · exact a4 M hM l hl
      | false =>
        rw [more_no ls n _ rfl h h2]
        exact ⟨Nat.le_refl _,hn,by simp,fun _ _ l hl=>by cases hl⟩
    · rw [more_end ls n _ rfl h]
      exact ⟨Nat.le_refl _,hn,by simp,fun _ _ l hl=>by cases hl⟩
theorem more_ge (ls:List (List UInt8)) (n:Nat):n≤(moreAt ls n).2:=by
  by_cases hn:n≤ls.length
  · exact (more_facts ls n hn).1
  · have:¬ behindS ls n < ls.length:=by have:=behind_ge ls n;omega
    rw [more_end ls n _ rfl this]
    exact Nat.le_refl _
def itemIn (ls:List (List UInt8)) (n:Nat):List (List UInt8):=(ls[n]?.getD []).drop 2 :: (moreAt ls (n+1)).1
def itemEv (inner:List (List UInt8)→List Ev) (ls:List (List UInt8)) (n:Nat):List Ev:=[⟨4,false,0,[]⟩]++inner (itemIn ls n)++[⟨4,true,0,[]⟩]
def itemsAt (inner:List (List UInt8)→List Ev) (ls:List (List UInt8)) (n:Nat):List Ev × Nat :=
  if h:behindS ls (moreAt ls (n+1)).2 < ls.length then
    if itemL ls[behindS ls (moreAt ls (n+1)).2]=true then
      (itemEv inner ls n++(itemsAt inner ls (behindS ls (moreAt ls (n+1)).2)).1,(itemsAt inner ls (behindS ls (moreAt ls (n+1)).2)).2)
    else (itemEv inner ls n,(moreAt ls (n+1)).2)
  else (itemEv inner ls n,(moreAt ls (n+1)).2)
termination_by ls.length - n
decreasing_by all_goals (have:=behind_ge ls (moreAt ls (n+1)).2;have:=more_ge ls (n+1);omega)
theorem items_go (inner:List (List UInt8)→List Ev) (ls:List (List UInt8)) (n k:Nat) (hk:behindS ls (moreAt ls (n+1)).2=k) (h:k < ls.length) (h2:itemL ls[k]=true) :
    itemsAt inner ls n=(itemEv inner ls n++(itemsAt inner ls k).1,(itemsAt inner ls k).2):=by
  subst hk
  rw [itemsAt,dif_pos h,if_pos h2]
theorem items_no (inner:List (List UInt8)→List Ev) (ls:List (List UInt8)) (n k:Nat) (hk:behindS ls (moreAt ls (n+1)).2=k) (h:k < ls.length) (h2:itemL ls[k]=false) :
    itemsAt inner ls n=(itemEv inner ls n,(moreAt ls (n+1)).2):=by
  subst hk
  rw [itemsAt,dif_pos h,if_neg (by simp [h2])]
theorem items_end (inner:List (List UInt8)→List Ev) (ls:List (List UInt8)) (n k:Nat) (hk:behindS ls (moreAt ls (n+1)).2=k) (h:¬ k < ls.length) :
    itemsAt inner ls n=(itemEv inner ls n,(moreAt ls (n+1)).2):=by
  subst hk
  rw [itemsAt,dif_neg h]
theorem item_small (ls:List (List UInt8)) (n:Nat) (hn:n < ls.length) (M:Nat) (hM:Small M ls):Small M (itemIn ls n)∧(itemIn ls n).length=(moreAt ls (n+1)).2 - n:=by
  obtain ⟨a1,a2,a3,a4⟩:=more_facts ls (n+1) (by omega)
  have hl:(itemIn ls n).length=(moreAt ls (n+1)).2 - n:=by
    rw [itemIn,List.length_cons,a3]
    omega
  refine ⟨⟨by have:=hM.1;omega,?_⟩,hl⟩
  intro l hl
  rw [itemIn,List.mem_cons] at hl
  rcases hl with rfl | hl
  · rw [List.getElem?_eq_getElem hn,Option.getD_some,List.length_drop]
    have:=hM.2 ls[n] (List.getElem_mem hn)
    omega
  · exact a4 M hM l hl
theorem items_facts (inner:List (List UInt8)→List Ev) (c:Nat) (hI:∀ ls,(inner ls).length≤c * ls.length) (ls:List (List UInt8)) (n:Nat) (hn:n < ls.length) :
    n < (itemsAt inner ls n).2∧(itemsAt inner ls n).2≤ls.length∧(itemsAt inner ls n).1.length≤(c+2) * ((itemsAt inner ls n).2 - n):=by
  induction hm:ls.length - n using Nat.strongRecOn generalizing n with
  | _ m ih =>
    obtain ⟨a1,a2,a3,_⟩:=more_facts ls (n+1) (by omega)
    have hev:(itemEv inner ls n).length≤(c+2) * ((moreAt ls (n+1)).2 - n):=by
      have h1:=hI (itemIn ls n)
      have h2:(itemIn ls n).length=(moreAt ls (n+1)).2 - n:=by rw [itemIn,List.length_cons,a3];omega
      rw [h2] at h1
      rw [Nat.add_mul]
      simp only [itemEv,List.length_append,List.length_singleton]
      omega
    have hge:=behind_ge ls (moreAt ls (n+1)).2
    by_cases h:behindS ls (moreAt ls (n+1)).2 < ls.length
    · cases h2:itemL ls[behindS ls (moreAt ls (n+1)).2] with
      | true =>
        obtain ⟨b1,b2,b3⟩:=ih (ls.length - behindS ls (moreAt ls (n+1)).2) (by omega) (behindS ls (moreAt ls (n+1)).2) h rfl
        rw [items_go inner ls n _ rfl h h2]
        refine ⟨by simp only;omega,b2,?_⟩
        simp only [List.length_append]
        generalize hx:itemsAt inner ls (behindS ls (moreAt ls (n+1)).2)=X at b1 b2 b3
        have h3:(c+2) * ((moreAt ls (n+1)).2 - n)+(c+2) * (X.2 - behindS ls (moreAt ls (n+1)).2)≤(c+2) * (X.2 - n):=by
          rw [← Nat.mul_add]
          exact Nat.mul_le_mul_left _ (by omega)
        omega
      | false =>
        rw [items_no inner ls n _ rfl h h2]
        exact ⟨by simp only;omega,a2,hev⟩
    · rw [items_end inner ls n _ rfl h]
      exact ⟨by simp only;omega,a2,hev⟩
def listS (inner:List (List UInt8)→List Ev) (ls:List (List UInt8)):List Ev:=[⟨3,false,0,[]⟩]++(itemsAt inner ls 0).1++[⟨3,true,0,[]⟩]
def listN (inner:List (List UInt8)→List Ev) (ls:List (List UInt8)):Nat:=(itemsAt inner ls 0).2
end Go.Proofs.YtljcljipppjnoaaGreatDoor
