import Derived.Lib.RuneBytes
import Derived.Laws.RangeAny
import Derived.Laws.Runes
import Derived.Lib.MapLaws
namespace Go.Proofs.YtljcljipppjnoaaGreatDoor
def lfAt (s:ByteArray) (p:Nat):Bool:=decide (p < s.size) && (s.get! p == 10)
def regAt (s:ByteArray) (p:Nat):List UInt8 :=
  if (Utf8.decode s p).1=0∨(Utf8.decode s p).1=65533 then [239,191,189]
  else if (Utf8.decode s p).1=13 then (if lfAt s (p+1)=true then [] else [10])
  else Lib.encodeRune (Utf8.decode s p).1
def regFrom (s:ByteArray):Nat→Nat→List UInt8
  | 0,_=>[]
  | f+1,p=>if p < s.size then regAt s p++regFrom s f (p+(Utf8.decode s p).2) else []
def reg (s:ByteArray):List UInt8:=regFrom s s.size 0
def txtAt (s:ByteArray) (b:Bool) (p:Nat):List UInt8 :=
  if (Utf8.decode s p).1=13 then [10]
  else if (Utf8.decode s p).1=10∧b=true then []
  else if (Utf8.decode s p).1=0 then Lib.encodeRune 65533
  else Lib.encodeRune (Utf8.decode s p).1
def txtFrom (s:ByteArray):Nat→Bool→Nat→List UInt8
  | 0,_,_=>[]
  | f+1,b,p=>if p < s.size then txtAt s b p++txtFrom s f (decide ((Utf8.decode s p).1=13)) (p+(Utf8.decode s p).2) else []
theorem get_bang (s:ByteArray) (p:Nat) (h:p < s.size):s.get! p=s[p]'h:=by
  simpa using get_at s p h
theorem width_pos (s:ByteArray) (p:Nat) (h:p < s.size):1≤(Utf8.decode s p).2:=by
  by_cases ha:(s[p]'h).toNat < 128
  · rw [decode_ascii s p h ha]
    exact Nat.le_refl _
  · exact (decode_high s p h (by omega)).2
theorem low_rune (s:ByteArray) (p:Nat) (h:p < s.size) (hr:(Utf8.decode s p).1 < 128):(s.get! p).toNat=(Utf8.decode s p).1∧(Utf8.decode s p).2=1:=by
  by_cases ha:(s[p]'h).toNat < 128
  · rw [decode_ascii s p h ha,get_bang s p h]
    exact ⟨rfl,rfl⟩
  · have:=(decode_high s p h (by omega)).1
    omega
theorem low_byte (s:ByteArray) (p:Nat) (h:p < s.size) (hb:(s.get! p).toNat < 128):(Utf8.decode s p).1=(s.get! p).toNat:=by
  rw [get_bang s p h] at hb ⊢
  rw [decode_ascii s p h hb]
theorem lfAt_iff (s:ByteArray) (p:Nat) (h:p < s.size):lfAt s p=true ↔ (Utf8.decode s p).1=10:=by
  unfold lfAt
  constructor
  · intro hh
    simp [h] at hh
    have:=low_byte s p h (by rw [hh];decide)
    rw [this,hh]
    rfl
  · intro hr
    have:=(low_rune s p h (by omega)).1
    simp [h]
    apply UInt8.toNat_inj.1
    rw [this,hr]
    rfl
theorem lfAt_end (s:ByteArray) (p:Nat) (h:¬ p < s.size):lfAt s p=false:=by simp [lfAt,h]
theorem enc_bad:Lib.encodeRune 65533=[239,191,189]:=by decide
theorem enc_lf:Lib.encodeRune 10=[10]:=by decide
theorem txt_reg (s:ByteArray):∀ (f p:Nat) (b:Bool),s.size≤p+f →
    (if b=true∧lfAt s p=true then [10] else [])++txtFrom s f b p=regFrom s f p:=by
  intro f
  induction f with
  | zero =>
    intro p b h
    have:lfAt s p=false:=lfAt_end s p (by omega)
    simp [txtFrom,regFrom,this]
  | succ f ih =>
    intro p b h
    by_cases hp:p < s.size
    · have hw:=width_pos s p hp
      have hlf:=lfAt_iff s p hp
      have ih':=ih (p+(Utf8.decode s p).2) (decide ((Utf8.decode s p).1=13)) (by omega)
      simp only [txtFrom,regFrom,if_pos hp]
      rw [← ih']
      by_cases h13:(Utf8.decode s p).1=13
      · have hw1:=(low_rune s p hp (by omega)).2
        have hnl:lfAt s p=false:=by
          cases hl:lfAt s p with
          | false=>rfl
          | true=>have:=hlf.1 hl;omega
        simp only [txtAt,regAt,hnl,hw1,h13,decide_true]
        cases lfAt s (p+1) <;> simp
      · have hd:decide ((Utf8.decode s p).1=13)=false:=by simp [h13]
        rw [hd]
        by_cases h10:(Utf8.decode s p).1=10
        · have hl:lfAt s p=true:=hlf.2 h10
          simp only [txtAt,regAt,hl,h10]
          cases b <;> simp [enc_lf]
        · have hl:lfAt s p=false:=by
            cases hl:lfAt s p with
            | false=>rfl
            | true=>exact absurd (hlf.1 hl) h10
          have hn:¬ ((Utf8.decode s p).1=10∧b=true):=fun x=>h10 x.1
          simp only [txtAt,regAt,if_neg h13,if_neg hn,hl]
          by_cases h0:(Utf8.decode s p).1=0
          · simp [h0,enc_bad]
          · by_cases hb:(Utf8.decode s p).1=65533
            · simp [hb,enc_bad]
            · simp [h0,hb]
    · have hl:lfAt s p=false:=lfAt_end s p hp
      simp [txtFrom,regFrom,hp,hl]
theorem txt_eq (s:ByteArray):txtFrom s s.size false 0=reg s:=by
  have:=txt_reg s s.size 0 false (by omega)
  simpa [reg] using this
theorem txtFrom_end (s:ByteArray) (f:Nat) (b:Bool) (p:Nat) (h:¬ p < s.size):txtFrom s f b p=[]:=by
  cases f with
  | zero=>rfl
  | succ f=>simp [txtFrom,h]
theorem regFrom_end (s:ByteArray) (f p:Nat) (h:¬ p < s.size):regFrom s f p=[]:=by
  cases f with
  | zero=>rfl
  | succ f=>simp [regFrom,h]
theorem encodeRune_len (r:Int):(Lib.encodeRune r).length≤4:=by
  have:=Lib.encodeRuneZ_length r
  simp [Lib.encodeRune];omega
theorem regAt_len (s:ByteArray) (p:Nat):(regAt s p).length≤4:=by
  unfold regAt
  have:=encodeRune_len (Utf8.decode s p).1
  split
  · simp
  · split
    · split <;> simp
    · exact this
theorem u8_of (a:Int) (b:Nat) (h:a=(b:Int)):a.toNat.toUInt8=UInt8.ofNat b:=by
  subst h
  rfl
theorem encode_list (r:Nat):(Utf8.encode (r:Int)).data.toList=Lib.encodeRune (r:Int):=by
  unfold Lib.encodeRune
  by_cases c1:r < 128
  · have v:Utf8.valid (r:Int)=true:=by simp [Utf8.valid];omega
    rw [Lib.encodeRuneZ_one (by omega) (by omega)]
    simp [Utf8.encode,v,c1]
  by_cases c2:r < 2048
  · have v:Utf8.valid (r:Int)=true:=by simp [Utf8.valid];omega
    rw [Lib.encodeRuneZ_two (by omega) (by omega)]
    simp only [List.map_cons,List.map_nil]
    rw [u8_of _ (192+r / 64) (by omega),u8_of _ (128+r % 64) (by omega)]
    simp [Utf8.encode,v,c1,c2]
  by_cases hb:(55296≤r∧r≤57343)∨1114111 < r
  · have v:Utf8.valid (r:Int)=false:=by simp [Utf8.valid];omega
    rw [Lib.encodeRuneZ_bad (by omega)]
    simp [Utf8.encode,v,Utf8.runeError]
  have v:Utf8.valid (r:Int)=true:=by simp [Utf8.valid];omega
  by_cases c3:r < 65536
  · rw [Lib.encodeRuneZ_three (by omega)]
    simp only [List.map_cons,List.map_nil]
    rw [u8_of _ (224+r / 4096) (by omega),u8_of _ (128+r / 64 % 64) (by omega),u8_of _ (128+r % 64) (by omega)]
    simp [Utf8.encode,v,c1,c2,c3]
  · rw [Lib.encodeRuneZ_four (by omega) (by omega)]
    simp only [List.map_cons,List.map_nil]
    rw [u8_of _ (240+r / 262144) (by omega),u8_of _ (128+r / 4096 % 64) (by omega),u8_of _ (128+r / 64 % 64) (by omega),u8_of _ (128+r % 64) (by omega)]
    simp [Utf8.encode,v,c1,c2,c3]
end Go.Proofs.YtljcljipppjnoaaGreatDoor
namespace Go.Proofs.YtljcljipppjnoaaGreatDoor
inductive Utf:List UInt8→Prop
  | nil:Utf []
  | cons (r:Nat) (t:List UInt8):Utf8.valid (r:Int)=true→Utf t→Utf (Lib.encodeRune (r:Int)++t)
theorem enc_low (r:Nat) (h:r < 128):Lib.encodeRune (r:Int)=[UInt8.ofNat r]:=by
  unfold Lib.encodeRune
  rw [Lib.encodeRuneZ_one (by omega) (by omega)]
  rfl
theorem byte_nat (z:Int) (n:Nat) (h:z=(n:Int)) (h2:n < 256):(z.toNat.toUInt8).toNat=n:=by
  subst h
  show (UInt8.ofNat (n:Int).toNat).toNat=n
  rw [UInt8.toNat_ofNat']
  simp
  omega
theorem enc_shape (r:Nat) (hv:Utf8.valid (r:Int)=true) (h:128≤r) :
    (r < 2048∧∃ a b:UInt8,Lib.encodeRune (r:Int)=[a,b]∧a.toNat=192+r / 64∧b.toNat=128+r % 64) ∨
    (2048≤r∧r < 65536∧(r < 55296∨57344≤r)∧∃ a b c:UInt8,Lib.encodeRune (r:Int)=[a,b,c]∧a.toNat=224+r / 4096∧b.toNat=128+r / 64 % 64∧c.toNat=128+r % 64) ∨
    (65536≤r∧r≤1114111∧∃ a b c d:UInt8,Lib.encodeRune (r:Int)=[a,b,c,d]∧a.toNat=240+r / 262144∧b.toNat=128+r / 4096 % 64∧c.toNat=128+r / 64 % 64∧d.toNat=128+r % 64):=by
  have hv2:(r < 55296)∨(57344≤r∧r≤1114111):=by
    simp [Utf8.valid] at hv
    omega
  unfold Lib.encodeRune
  by_cases c2:r < 2048
  · left
    refine ⟨c2,_,_,by rw [Lib.encodeRuneZ_two (by omega) (by omega)];rfl,byte_nat _ _ (by omega) (by omega),byte_nat _ _ (by omega) (by omega)⟩
  by_cases c3:r < 65536
  · right;left
    refine ⟨by omega,c3,by omega,_,_,_,by rw [Lib.encodeRuneZ_three (by omega)];rfl,byte_nat _ _ (by omega) (by omega),byte_nat _ _ (by omega) (by omega),byte_nat _ _ (by omega) (by omega)⟩
  · right;right
    refine ⟨by omega,by omega,_,_,_,_,by rw [Lib.encodeRuneZ_four (by omega) (by omega)];rfl,byte_nat _ _ (by omega) (by omega),byte_nat _ _ (by omega) (by omega),byte_nat _ _ (by omega) (by omega),byte_nat _ _ (by omega) (by omega)⟩
theorem enc_high (r:Nat) (hv:Utf8.valid (r:Int)=true) (h:128≤r):∀ b ∈ Lib.encodeRune (r:Int),128≤b.toNat:=by
  intro x hx
  rcases enc_shape r hv h with ⟨_,a,b,e,h1,h2⟩ | ⟨_,_,_,a,b,c,e,h1,h2,h3⟩ | ⟨_,_,a,b,c,d,e,h1,h2,h3,h4⟩
  · rw [e] at hx
    simp at hx
    rcases hx with rfl | rfl <;> omega
  · rw [e] at hx
    simp at hx
    rcases hx with rfl | rfl | rfl <;> omega
  · rw [e] at hx
    simp at hx
    rcases hx with rfl | rfl | rfl | rfl <;> omega
theorem decode_enc (r:Nat) (hv:Utf8.valid (r:Int)=true) (t:List UInt8):Lib.decodeL (Lib.encodeRune (r:Int)++t)=(r,(Lib.encodeRune (r:Int)).length):=by
  rw [Lib.decodeL_N]
  by_cases h:r < 128
  · rw [enc_low r h]
    have e:(UInt8.ofNat r).toNat=r:=by rw [UInt8.toNat_ofNat'];omega
    simp [Lib.decodeN,e,h]
  · rcases enc_shape r hv (by omega) with ⟨q1,a,b,e,h1,h2⟩ | ⟨q1,q2,q3,a,b,c,e,h1,h2,h3⟩ | ⟨q1,q2,a,b,c,d,e,h1,h2,h3,h4⟩
    · rw [e]
      simp only [List.cons_append,List.nil_append,List.getD_cons_zero,List.getD_cons_succ,List.length_cons,List.length_nil,Nat.zero_add]
      rw [h1,h2]
      rcases Lib.decodeN_shape (t.length+1+1) (192+r / 64) (128+r % 64) (t.getD 0 0).toNat (t.getD 1 0).toNat with ⟨c,e⟩ | ⟨c1,c2,c3,cv,e⟩ | ⟨c1,c2,c3,c4,cv,cs,e⟩ | ⟨c1,c2,c3,c4,c5,cv,cw,e⟩ | e
      · omega
      · rw [e]
        exact Prod.ext (by show _=_;omega) rfl
      · omega
      · omega
      · exfalso
        unfold Lib.decodeN at e
        repeat' split at e
        all_goals first | omega | (simp at e;omega) | (simp_all <;> omega)
    · rw [e]
      simp only [List.cons_append,List.nil_append,List.getD_cons_zero,List.getD_cons_succ,List.length_cons,List.length_nil,Nat.zero_add]
      rw [h1,h2,h3]
      rcases Lib.decodeN_shape (t.length+1+1+1) (224+r / 4096) (128+r / 64 % 64) (128+r % 64) (t.getD 0 0).toNat with ⟨c,e⟩ | ⟨c1,c2,c3,cv,e⟩ | ⟨c1,c2,c3,c4,cv,cs,e⟩ | ⟨c1,c2,c3,c4,c5,cv,cw,e⟩ | e
      · omega
      · omega
      · rw [e]
        exact Prod.ext (by show _=_;omega) rfl
      · omega
      · exfalso
        unfold Lib.decodeN at e
        repeat' split at e
        all_goals first | omega | (simp at e;omega) | (simp_all <;> omega)
    · rw [e]
      simp only [List.cons_append,List.nil_append,List.getD_cons_zero,List.getD_cons_succ,List.length_cons,List.length_nil,Nat.zero_add]
      rw [h1,h2,h3,h4]
      rcases Lib.decodeN_shape (t.length+1+1+1+1) (240+r / 262144) (128+r / 4096 % 64) (128+r / 64 % 64) (128+r % 64) with ⟨c,e⟩ | ⟨c1,c2,c3,cv,e⟩ | ⟨c1,c2,c3,c4,cv,cs,e⟩ | ⟨c1,c2,c3,c4,c5,cv,cw,e⟩ | e
      · omega
      · omega
      · omega
      · rw [e]
        exact Prod.ext (by show _=_;omega) rfl
      · exfalso
        unfold Lib.decodeN at e
        repeat' split at e
        all_goals first | omega | (simp at e;omega) | (simp_all <;> omega)
theorem utf_append {a b:List UInt8} (ha:Utf a) (hb:Utf b):Utf (a++b):=by
  induction ha with
  | nil=>exact hb
  | cons r t hv _ ih=>rw [List.append_assoc];exact Utf.cons r _ hv ih
theorem utf_low (c:UInt8) (h:c.toNat < 128):Utf [c]:=by
  have:=Utf.cons c.toNat [] (by simp [Utf8.valid];omega) Utf.nil
  rw [enc_low _ h] at this
  simpa using this
theorem utf_cut {l:List UInt8} (h:Utf l):∀ (a:List UInt8) (c:UInt8) (b:List UInt8),l=a++c :: b→c.toNat < 128→Utf a∧Utf b:=by
  induction h with
  | nil=>intro a c b h _;simp at h
  | cons r t hv ht ih =>
    intro a c b h hc
    rcases List.append_eq_append_iff.1 h with ⟨a',rfl,h2⟩ | ⟨c',h1,h2⟩
    · obtain ⟨i1,i2⟩:=ih a' c b h2 hc
      exact ⟨Utf.cons r a' hv i1,i2⟩
    · cases c' with
      | nil =>
        simp only [List.append_nil,List.nil_append] at h1 h2
        obtain ⟨i1,i2⟩:=ih [] c b h2.symm hc
        have:=Utf.cons r [] hv Utf.nil
        rw [List.append_nil,h1] at this
        exact ⟨this,i2⟩
      | cons c0 c' =>
        simp only [List.cons_append,List.cons.injEq] at h2
        obtain ⟨rfl,h2⟩:=h2
        have hr:r < 128:=by
          apply Nat.lt_of_not_le
          intro hr
          have:=enc_high r hv hr c (by rw [h1];simp)
          omega
        rw [enc_low r hr] at h1
        have hl:=congrArg List.length h1
        simp at hl
        have ha:a=[]:=List.eq_nil_of_length_eq_zero (by omega)
        have hc':c'=[]:=List.eq_nil_of_length_eq_zero (by omega)
        subst ha
        subst hc'
        rw [h2]
        exact ⟨Utf.nil,by simpa using ht⟩
theorem utf_tail {c:UInt8} {b:List UInt8} (h:Utf (c :: b)) (hc:c.toNat < 128):Utf b:=(utf_cut h [] c b rfl hc).2
theorem decode_valid (s:ByteArray) (p:Nat):Utf8.valid ((Utf8.decode s p).1:Int)=true:=by
  rw [← Lib.decodeL_drop,Lib.decodeL_N]
  generalize s.data.toList.drop p=l
  have k0:=(l.getD 0 0).toNat_lt
  generalize l.length=n
  generalize (l.getD 0 0).toNat=b0 at k0
  generalize (l.getD 1 0).toNat=b1
  generalize (l.getD 2 0).toNat=b2
  generalize (l.getD 3 0).toNat=b3
  rcases Lib.decodeN_shape n b0 b1 b2 b3 with ⟨c,e⟩ | ⟨c1,c2,c3,cv,e⟩ | ⟨c1,c2,c3,c4,cv,cs,e⟩ | ⟨c1,c2,c3,c4,c5,cv,cw,e⟩ | e
  all_goals
    rw [e]
    simp [Utf8.valid]
    try omega
theorem regFrom_utf (s:ByteArray):∀ (f p:Nat),Utf (regFrom s f p):=by
  intro f
  induction f with
  | zero=>intro p;exact Utf.nil
  | succ f ih =>
    intro p
    rw [regFrom]
    split
    · refine utf_append ?_ (ih _)
      unfold regAt
      split
      · have:=Utf.cons 65533 [] (by decide) Utf.nil
        simpa [enc_bad] using this
      split
      · split
        · exact Utf.nil
        · exact utf_low 10 (by decide)
      · have:=Utf.cons (Utf8.decode s p).1 [] (decode_valid s p) Utf.nil
        simpa using this
    · exact Utf.nil
theorem reg_utf (s:ByteArray):Utf (reg s):=regFrom_utf s _ _
end Go.Proofs.YtljcljipppjnoaaGreatDoor
