import Derived.Test.YtljcljipppjnoaaGreatDoorJA22
import Derived.Test.YtljcljipppjnoaaGreatDoorJA27
import Derived.Test.YtljcljipppjnoaaGreatDoorJA31
namespace Go.Proofs.YtljcljipppjnoaaGreatDoor
open Go.RowKit Go.Shelf
def letN (n:Nat):Bool:=(decide (97≤n) && decide (n≤122)) || (decide (65≤n) && decide (n≤90))
theorem let_any (c:UInt8) (w:World) :
    Calls Tryz.prog 192 #[.int .u8 c.toNat] w fun e w'=>e=.returned (.bool (letN c.toNat))∧w'=w:=by
  have hc:c.toNat < 256:=c.toNat_lt
  generalize c.toNat=n at hc
  have hq:n < 65∨(65≤n∧n≤90)∨(91≤n∧n≤96)∨(97≤n∧n≤122)∨123≤n:=by omega
  rcases hq with h | ⟨h,h'⟩ | ⟨h,h'⟩ | ⟨h,h'⟩ | h
  all_goals
    first
    | (have HV:Hid (letN n=true):=by show _=_;unfold letN;simp;omega)
    | (have HV:Hid (letN n=false):=by show _=_;unfold letN;simp;omega)
    go_enter Tryz.func192,Tryz.ntmps192
    go_wp2
    go_ret
    rw [HV.out]
    refine ⟨?_,rfl⟩
    first
    | rfl
    | (refine congrArg (fun b=>Ending.returned (Value.bool b)) ?_;simp;omega)
def keptB (c:UInt8):Bool:=decide (0≤foundZ keepL c 0) || keepN c.toNat
theorem idx_keep (c:UInt8) (w:World) :
    Calls Tryz.prog 193 #[.string ⟨keepL.toArray⟩,.int .u8 c.toNat] w fun e w'=>e=.returned (.int .i64 (foundZ keepL c 0))∧w'=w:=by
  refine (Any.strings_IndexByte Tryz.lays137 ⟨keepL.toArray⟩ c.toNat w).mono ?_
  rintro e w' ⟨rfl,h⟩
  refine ⟨?_,h⟩
  have e1:((c.toNat:Int).toNat.toUInt8)=c:=by simp
  rw [e1,ib_first]
  have e2:firstZ (fun x=>x == c) keepL=foundZ keepL c 0:=by
    unfold firstZ foundZ nextAt firstN
    simp
  exact congrArg (fun z=>Ending.returned (Value.int .i64 z)) e2
set_option maxRecDepth 100000 in
set_option maxHeartbeats 2000000 in
theorem kept_any (c:UInt8) (w:World) :
    Calls Tryz.prog 168 #[.int .u8 c.toNat] w fun e w'=>e=.returned (.bool (keptB c))∧w'=w:=by
  have hc:c.toNat < 256:=c.toNat_lt
  have c1:=fun W=>let_any c W
  have c2:=fun W=>idx_keep c W
  unfold keptB
  have hz:foundZ keepL c 0=-1∨0≤foundZ keepL c 0:=by unfold foundZ;split <;> omega
  have e1:(⟨keepL.toArray⟩:ByteArray)=⟨#[45,46,95,126,47,63,35,61,58,43,44,59,64,33,36,39,40,41,42,37]⟩:=rfl
  rw [e1] at c2
  clear e1
  generalize foundZ keepL c 0=z at c2 hz
  generalize c.toNat=n at hc c1 c2
  have hq:(letN n=true∧keepN n=true)∨(letN n=false∧keepN n=true∧48≤n∧n≤57)∨(letN n=false∧keepN n=false∧n < 48)∨(letN n=false∧keepN n=false∧57 < n):=by
    unfold letN keepN
    by_cases h1:(97≤n∧n≤122)∨(65≤n∧n≤90)
    · exact Or.inl ⟨by simp;omega,by simp;omega⟩
    · by_cases h2:48≤n∧n≤57
      · exact Or.inr (Or.inl ⟨by simp;omega,by simp;omega,h2⟩)
      · by_cases h3:n < 48
        · exact Or.inr (Or.inr (Or.inl ⟨by simp;omega,by simp;omega,h3⟩))
        · exact Or.inr (Or.inr (Or.inr ⟨by simp;omega,by simp;omega,by omega⟩))
  rcases hq with ⟨hl,hk⟩ | ⟨hl,hk,h,h'⟩ | ⟨hl,hk,h⟩ | ⟨hl,hk,h⟩
  · rw [hl] at c1
    rw [hk,Bool.or_true]
    clear hl hk
    go_enter Tryz.func168,Tryz.ntmps168
    go_wp2_with (go_at_call 192;refine (c1 _).mono ?_;rintro e w' ⟨rfl,hw⟩;rw [hw];clear hw)
    go_ret
    exact ⟨rfl,rfl⟩
  · rw [hl] at c1
    rw [hk,Bool.or_true]
    clear hl hk
    go_enter Tryz.func168,Tryz.ntmps168
    go_wp2_with (go_at_call 192;refine (c1 _).mono ?_;rintro e w' ⟨rfl,hw⟩;rw [hw];clear hw)
    go_ret
    exact ⟨rfl,rfl⟩
  all_goals
    rw [hl] at c1
    rw [hk,Bool.or_false]
    clear hl hk
    rcases hz with rfl | hz
    · go_enter Tryz.func168,Tryz.ntmps168
      go_wp2_with (first | (go_at_call 192;refine (c1 _).mono ?_;rintro e w' ⟨rfl,hw⟩;rw [hw];clear hw) | (go_at_call 193;refine (c2 _).mono ?_;rintro e w' ⟨rfl,hw⟩;rw [hw];clear hw))
      go_ret
      refine ⟨?_,rfl⟩
      first
      | rfl
      | (refine congrArg (fun b=>Ending.returned (Value.bool b)) ?_;simp;omega)
    · have hd:decide (0≤z)=true:=by simpa using hz
      rw [hd]
      go_enter Tryz.func168,Tryz.ntmps168
      go_wp2_with (first | (go_at_call 192;refine (c1 _).mono ?_;rintro e w' ⟨rfl,hw⟩;rw [hw];clear hw) | (go_at_call 193;refine (c2 _).mono ?_;rintro e w' ⟨rfl,hw⟩;rw [hw];clear hw))
      go_ret
      exact ⟨rfl,rfl⟩
theorem kept38:keptB 38=false:=by decide
theorem where_kept (c:UInt8) (h:keptB c=true):whereC c=[c]:=by
  have hn:c ≠ 38:=fun e=>by rw [e,kept38] at h;cases h
  unfold keptB at h
  unfold whereC
  rw [if_neg hn,if_pos h]
theorem where_hex (c:UInt8) (h:keptB c=false) (hn:c ≠ 38):whereC c=[37]++whereC.cutH (c.toNat / 16)++whereC.cutH (c.toNat % 16):=by
  unfold whereC
  rw [if_neg hn]
  unfold keptB at h
  rw [h]
  rfl
def hexB (k:Nat):UInt8:=hexL.getD k 0
theorem cut_hex (k:Nat) (h:k < 16):whereC.cutH k=[hexB k]:=by
  have e:∀ j:Fin 16,whereC.cutH j.val=[hexB j.val]:=by decide
  exact e ⟨k,h⟩
theorem hex_get (k:Nat) (h:k < 16):(⟨hexL.toArray⟩:ByteArray)[k]'(by exact h)=hexB k:=by
  have e:∀ j:Fin 16,(⟨hexL.toArray⟩:ByteArray)[j.val]'(by exact j.isLt)=hexB j.val:=by decide
  exact e ⟨k,h⟩
set_option maxRecDepth 100000 in
set_option maxHeartbeats 2000000 in
theorem adr_any (s:ByteArray) (w:World) (hs:s.size≤35184372088) :
    Calls Tryz.prog 138 #[.string s] w fun e w'=>e=.returned (.string ⟨(whereL s.data.toList).toArray⟩)∧Below w.heap.size w w':=by
  have hl:=ba_len s
  go_enter Tryz.func138,Tryz.ntmps138
  go_wp2
  go_loopw [8] (fun i wr=>∃ (k:Nat) (acc:List UInt8),k≤s.size∧i=.int .i64 k∧Lib.IsBuilderF 191 5 w.heap.size w.heap.size (Lib.byteCells acc) wr∧Below w.heap.size w wr∧Hid (acc=whereL (s.data.toList.take k))∧acc.length≤6 * k) (fun i _=>s.size - (intOf i).toNat)
  case atStart=>exact ⟨0,[],Nat.zero_le _,rfl,Lib.IsBuilderF.of (Lib.fresh_isBuilder 191 5 w),(Below.refl _ w).alloc (Nat.le_refl _) _,(by show _=_;rfl),Nat.le_refl _⟩
  case round =>
    obtain ⟨k,acc,hk,rfl,hI,hbw,HA,hal⟩:=hrel
    have hsz:=hbw.size
    by_cases hlt:k < s.size
    · have HS:Hid (whereL (s.data.toList.take (k+1))=acc++whereC s[k]):=by
        show _=_
        rw [take_snoc s k hlt,where_snoc,HA.out]
      have c1:=fun W=>kept_any s[k] W
      have hbl:(Lib.byteCells acc).length+6≤140737488355328:=by rw [Lib.byteCells_length];omega
      have FIN:Hid (∀ W1 (x:List UInt8),Lib.IsBuilderF 191 5 w.heap.size w.heap.size (Lib.byteCells (acc++x)) W1→Below w.heap.size w W1→x=whereC s[k]→x.length≤6→∃ (k':Nat) (acc:List UInt8),k'≤s.size∧Value.int .i64 ((k:Int)+1)=.int .i64 k'∧Lib.IsBuilderF 191 5 w.heap.size w.heap.size (Lib.byteCells acc) W1∧Below w.heap.size w W1∧Hid (acc=whereL (s.data.toList.take k'))∧acc.length≤6 * k'):=by
        intro W1 x a b e hx
        subst e
        exact ⟨k+1,acc++whereC s[k],hlt,rfl,a,b,HS.out.symm,by rw [List.length_append];omega⟩
      cases hkp:keptB s[k] with
      | true =>
        rw [hkp] at c1
        have HE:Hid ([s[k]]=whereC s[k]):=(where_kept _ hkp).symm
        clear HS HA hkp
        go_wp2_with (first
          | (go_at_call 168;refine (c1 _).mono ?_;rintro e w' ⟨rfl,hw⟩;rw [hw];clear hw)
          | (go_at_call 104;refine (bld_byte w.heap.size w.heap.size _ _ _ hI (by omega) hsz).mono ?_))
        rintro e W1 ⟨rfl,h1,b1,k1⟩
        go_wp2
        go_roundw
        case rel =>
          refine FIN.out _ [s[k]] ?_ (hbw.trans b1) HE.out (by simp)
          rw [Lib.byteCells_append];exact Or.inr h1
        case measure=>simp [intOf];omega
      | false =>
        rw [hkp] at c1
        by_cases h38:s[k]=38
        · have g:((s[k].toNat:Int) == 38)=true:=by rw [h38];rfl
          have HE:Hid ([38,97,109,112,59]=whereC s[k]):=by show _=_;rw [h38];rfl
          clear HS HA hkp h38
          go_wp2_with (first
            | (go_at_call 168;refine (c1 _).mono ?_;rintro e w' ⟨rfl,hw⟩;rw [hw];clear hw)
            | (go_at_call 121;refine (bld_string w.heap.size w.heap.size _ ⟨#[38,97,109,112,59]⟩ _ hI (by show _+5≤_;omega) hsz).mono ?_))
          rintro e W1 ⟨rfl,h1,b1,k1⟩
          go_wp2
          go_roundw
          case rel =>
            refine FIN.out _ [38,97,109,112,59] ?_ (hbw.trans b1) HE.out (by simp)
            rw [Lib.byteCells_append];exact Or.inr h1
          case measure=>simp [intOf];omega
        · have g38:((s[k].toNat:Int) == 38)=false:=(u8_eq s[k] 38).trans (beq_eq_false_iff_ne.2 h38)
          have hn:=s[k].toNat_lt
          have hd16:s[k].toNat / 16 < 16:=by omega
          have hm16:s[k].toNat % 16 < 16:=by omega
          have HE:Hid ([37]++[hexB (s[k].toNat / 16)]++[hexB (s[k].toNat % 16)]=whereC s[k]):=by
            show _=_
            rw [where_hex _ hkp h38,cut_hex _ hd16,cut_hex _ hm16]
          clear HS HA hkp h38
          go_wp2_with (first
            | (go_at_call 168;refine (c1 _).mono ?_;rintro e w' ⟨rfl,hw⟩;rw [hw];clear hw)
            | (go_at_call 104;refine (bld_byte w.heap.size w.heap.size _ _ _ hI (by omega) hsz).mono ?_))
          rintro e W1 ⟨rfl,h1,b1,k1⟩
          have z1:=b1.size
          have hb1:(Lib.byteCells acc++[Value.int IntKind.u8 37]).length+5≤140737488355328:=by rw [List.length_append];simp only [List.length_singleton];omega
          go_wp2_with (go_at_call 104;refine (bld_byte w.heap.size w.heap.size _ _ _ (Or.inr h1) (by omega) (by omega)).mono ?_)
          rintro e W2 ⟨rfl,h2,b2,k2⟩
          have z2:=b2.size
          have hx1:=hex_get (s[k].toNat / 16) hd16
          have e1:(⟨hexL.toArray⟩:ByteArray)=⟨#[48,49,50,51,52,53,54,55,56,57,65,66,67,68,69,70]⟩:=rfl
          generalize hu1:Value.int IntKind.u8 ((({ data:=#[48,49,50,51,52,53,54,55,56,57,65,66,67,68,69,70] }:ByteArray)[s[k].toNat / 16]'(by exact hd16)).toNat:Int)=u1 at h2 ⊢
          have HU1:Hid (u1=Value.int IntKind.u8 ((hexB (s[k].toNat / 16)).toNat:Int)):=by
            show _=_
            rw [← hu1,← hx1]
            rfl
          clear hu1 hx1
          have hb2:(Lib.byteCells acc++[Value.int IntKind.u8 37]++[u1]).length+4≤140737488355328:=by rw [List.length_append];simp only [List.length_singleton];omega
          go_wp2_with (go_at_call 104;refine (bld_byte w.heap.size w.heap.size _ _ _ (Or.inr h2) (by omega) (by omega)).mono ?_)
          rintro e W3 ⟨rfl,h3,b3,k3⟩
          go_wp2
          go_roundw
          case rel =>
            refine FIN.out _ ([37]++[hexB (s[k].toNat / 16)]++[hexB (s[k].toNat % 16)]) ?_ (hbw.trans (b1.trans (b2.trans b3))) HE.out (by simp)
            rw [Lib.byteCells_append,Lib.byteCells_append,Lib.byteCells_append,← List.append_assoc,← List.append_assoc]
            rw [HU1.out] at h3
            have hx2:=hex_get (s[k].toNat % 16) hm16
            have e3:Lib.byteCells [hexB (s[k].toNat % 16)]=[Value.int IntKind.u8 ((({ data:=#[48,49,50,51,52,53,54,55,56,57,65,66,67,68,69,70] }:ByteArray)[s[k].toNat % 16]'(by exact hm16)).toNat:Int)]:=by
              rw [← hx2]
              rfl
            rw [e3]
            exact Or.inr h3
          case measure=>simp [intOf];omega
    · have hx:¬ ((k:Int) < (s.size:Int)):=by omega
      go_wp2_with (go_at_call 106;refine (bld_all w.heap.size w.heap.size acc _ hI (by omega)).mono ?_;rintro e W1 ⟨rfl,_,b1,_⟩)
      go_ret
      have:=HA.out
      rw [List.take_of_length_le (by omega)] at this
      rw [← this]
      exact ⟨rfl,hbw.trans b1⟩
end Go.Proofs.YtljcljipppjnoaaGreatDoor
