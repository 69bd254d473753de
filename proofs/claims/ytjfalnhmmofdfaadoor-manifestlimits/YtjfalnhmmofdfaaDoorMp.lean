/-
  Plain mathematics: which bytes a manifest is, which manifest any bytes are, which it is written as and read again; conditions: none.
-/
import Derived.Test.YtjfalnhmmofdfaaDoorPlain
import Derived.Test.YtjfalnhmmofdfaaDoorNaBack
import Derived.Test.YtjfalnhmmofdfaaDoorShaKey
import Derived.Laws.BytesArg
namespace Go.Proofs.YtjfalnhmmofdfaaDoor
open Go.RowKit Go.Lib

/-- The bytes of a text. -/
def txtL (s : ByteArray) : List Int := s.data.toList.map fun b => (b.toNat : Int)
theorem txt_len (s : ByteArray) : (txtL s).length = s.size := by rw [txtL, List.length_map]; exact Nam.size_list s
theorem txt_byt (s : ByteArray) : Byt (txtL s) := by
  intro n hn
  obtain ⟨b, _, rfl⟩ := List.mem_map.1 hn
  have := b.toNat_lt
  omega
theorem str_txt (s : ByteArray) : strOfNums (txtL s) = s := by
  apply ByteArray.ext
  apply Array.toList_inj.1
  rw [strOfNums_data]
  unfold txtL
  rw [List.map_map]
  conv => rhs; rw [← List.map_id s.data.toList]
  apply List.map_congr_left
  intro b _
  simp
/-- Is so much left of k bytes, if bytes 0 go at the end? -/
def trimN (xs : List Int) : Nat → Nat
  | 0 => 0
  | k + 1 => if xs.getD k 0 = 0 then trimN xs k else k + 1
def trimL (xs : List Int) : List Int := xs.take (trimN xs xs.length)
theorem trimN_le (xs : List Int) : ∀ k, trimN xs k ≤ k
  | 0 => Nat.le_refl _
  | k + 1 => by
    unfold trimN
    have := trimN_le xs k
    split <;> omega
theorem trimN_zero {xs : List Int} {k : Nat} (h : xs.getD k 0 = 0) : trimN xs (k + 1) = trimN xs k := by rw [trimN, if_pos h]
theorem trimN_some {xs : List Int} {k : Nat} (h : ¬ xs.getD k 0 = 0) : trimN xs (k + 1) = k + 1 := by rw [trimN, if_neg h]
theorem trimN_more {xs : List Int} {n : Nat} : ∀ k, (∀ j, n ≤ j → j < n + k → xs.getD j 0 = 0) → trimN xs (n + k) = trimN xs n
  | 0, _ => rfl
  | k + 1, h => by
    rw [← Nat.add_assoc, trimN_zero (h (n + k) (by omega) (by omega)), trimN_more k (fun j h1 h2 => h j h1 (by omega))]
theorem trim_raw {xs : List Int} {m : Nat} (hl : xs.length ≤ m) (hn : ∀ x ∈ xs, x ≠ 0) : trimL (rawL xs m) = xs := by
  unfold trimL
  have e : trimN (rawL xs m) (rawL xs m).length = xs.length := by
    rw [raw_len]
    obtain ⟨d, rfl⟩ : ∃ d, m = xs.length + d := ⟨m - xs.length, by omega⟩
    rw [trimN_more d (fun j h1 h2 => by rw [raw_at _ _ _ h2]; simp [List.getD_eq_getElem?_getD, List.getElem?_eq_none h1])]
    cases hx : xs.length with
    | zero => rfl
    | succ k =>
      refine trimN_some ?_
      rw [raw_at _ _ _ (by omega), List.getD_eq_getElem?_getD, List.getElem?_eq_getElem (by omega)]
      exact hn _ (List.getElem_mem _)
  rw [e]
  unfold rawL
  rw [List.take_of_length_le hl, List.take_left']
  rfl
theorem good_bytes {r : Int} (h : Nam.goodB r = true) : (encodeRune r).length ≤ 2 ∧ ∀ b ∈ encodeRune r, b ≠ 0 := by
  simp only [Nam.goodB, decide_eq_true_eq] at h
  unfold encodeRune
  by_cases c : r ≤ 127
  · rw [encodeRuneZ_one (by omega) c]
    refine ⟨by simp, fun b hb => ?_⟩
    simp only [List.map_cons, List.map_nil, List.mem_singleton] at hb
    subst hb
    intro e
    have := congrArg UInt8.toNat e
    rw [Nam.u8_toNat r (by omega) (by omega)] at this
    simp at this
    omega
  · rw [encodeRuneZ_two (by omega) (by omega)]
    refine ⟨by simp, fun b hb => ?_⟩
    simp only [List.map_cons, List.map_nil, List.mem_cons, List.not_mem_nil, or_false] at hb
    rcases hb with rfl | rfl
    · intro e
      have := congrArg UInt8.toNat e
      rw [Nam.u8_toNat _ (by omega) (by omega)] at this
      simp at this
      omega
    · intro e
      have := congrArg UInt8.toNat e
      rw [Nam.u8_toNat _ (by omega) (by omega)] at this
      simp at this
      omega
theorem flat_bytes : ∀ ks : List Int, (∀ r ∈ ks, Nam.goodB r = true) → (ks.flatMap encodeRune).length ≤ 2 * ks.length ∧ ∀ b ∈ ks.flatMap encodeRune, b ≠ 0
  | [], _ => ⟨by simp, fun b hb => by simp at hb⟩
  | r :: ks, h => by
    obtain ⟨h1, h2⟩ := good_bytes (h r (by simp))
    obtain ⟨h3, h4⟩ := flat_bytes ks (fun x hx => h x (by simp [hx]))
    rw [List.flatMap_cons, List.length_append, List.length_cons]
    refine ⟨by omega, fun b hb => ?_⟩
    rcases List.mem_append.1 hb with h5 | h5
    · exact h2 b h5
    · exact h4 b h5
/-- A name has at most 16 bytes, none of them 0. -/
theorem name_bytes {s : ByteArray} (h : Nam.validL (Nam.all s) = true) : s.size ≤ 16 ∧ ∀ x ∈ txtL s, x ≠ 0 := by
  unfold Nam.validL at h
  simp only [Bool.and_eq_true, decide_eq_true_eq, List.all_eq_true] at h
  obtain ⟨⟨h1, h2⟩, h3⟩ := h
  have e : (Nam.all s).flatMap encodeRune = s.data.toList := Nam.rs_back _ _ (Nat.le_refl _) (fun r hr => (Nam.good_ok (h3 r hr)).2.1)
  obtain ⟨h4, h5⟩ := flat_bytes _ h3
  rw [e] at h4 h5
  refine ⟨by rw [← Nam.size_list]; omega, fun x hx => ?_⟩
  obtain ⟨b, hb, rfl⟩ := List.mem_map.1 hx
  have := h5 b hb
  intro h0
  apply this
  apply UInt8.toNat_inj.1
  simp
  omega

/-- A manifest. -/
structure Mn where
  name : ByteArray
  ver : Int
  size : Int
  dig : List Int
def I64 (x : Int) : Prop := -9223372036854775808 ≤ x ∧ x ≤ 9223372036854775807
def Mn.Ok (m : Mn) : Prop := m.dig.length = 32 ∧ Byt m.dig ∧ I64 m.ver ∧ I64 m.size
def markL : List Int := [87, 76, 77, 49]
def zeroM : Mn := ⟨ByteArray.empty, 0, 0, List.replicate 32 0⟩
/-- What it says, as bytes. -/
def bodyL (m : Mn) : List Int := [] ++ rawL markL 4 ++ rawL (txtL m.name) 16 ++ numL m.ver 4 ++ numL m.size 4 ++ rawL m.dig 32
theorem body_len (m : Mn) : (bodyL m).length = 60 := by simp [bodyL, raw_len, num_len]
theorem byt_mark : Byt markL := by
  have h : ∀ n ∈ markL, 0 ≤ n ∧ n ≤ 255 := by decide
  exact h
theorem body_byt {m : Mn} (h : Byt m.dig) : Byt (bodyL m) := byt_app (byt_app (byt_app (byt_app (byt_app byt_nil (raw_byt byt_mark _)) (raw_byt (txt_byt _) _)) (num_byt _ _)) (num_byt _ _)) (raw_byt h _)
theorem raw_take (zs : List Int) (k : Nat) : rawL (zs.take k) k = rawL zs k := by
  unfold rawL
  rw [List.take_take, Nat.min_self, List.length_take]
  congr 2
  omega
theorem raw_all {zs : List Int} {k : Nat} (h : zs.length = k) : rawL zs k = zs := by
  unfold rawL
  rw [List.take_of_length_le (by omega), h, Nat.sub_self]
  simp
/-- And its tag. -/
def byteL (ks : List Int) (m : Mn) : List Int := bodyL m ++ Sha.tagI ks (bodyL m)
theorem byte_len (ks : List Int) (m : Mn) : (byteL ks m).length = 92 := by rw [byteL, List.length_append, body_len, Sha.tag_len]

def nameL (zs : List Int) : List Int := trimL ((zs.drop 4).take 16)
def verL (zs : List Int) : Int := val ((zs.drop 20).take 4)
def sizL (zs : List Int) : Int := val ((zs.drop 24).take 4)
def digL (zs : List Int) : List Int := (zs.drop 28).take 32
def Num (x : Int) : Prop := 1 ≤ x ∧ x ≤ 1073741824
/-- Are these bytes a manifest? -/
def Good (zs : List Int) : Prop := zs.length = 92 ∧ zs.take 4 = markL ∧ Nam.validL (Nam.all (strOfNums (nameL zs))) = true ∧ Num (verL zs) ∧ Num (sizL zs)
instance (x : Int) : Decidable (Num x) := by unfold Num; infer_instance
instance (zs : List Int) : Decidable (Good zs) := by unfold Good; infer_instance
def told (zs : List Int) : Mn := ⟨strOfNums (nameL zs), verL zs, sizL zs, digL zs⟩
def readM (zs : List Int) : Mn := if Good zs then told zs else zeroM
def readT (zs : List Int) : List Int := if Good zs then zs.drop 60 else []
def readE (zs : List Int) : Int := if Good zs then 0 else 6
theorem readM_no {zs : List Int} (h : ¬ Good zs) : readM zs = zeroM := if_neg h
theorem readT_no {zs : List Int} (h : ¬ Good zs) : readT zs = [] := if_neg h
theorem readE_no {zs : List Int} (h : ¬ Good zs) : readE zs = 6 := if_neg h
theorem readM_yes {zs : List Int} (h : Good zs) : readM zs = told zs := if_pos h
theorem readT_yes {zs : List Int} (h : Good zs) : readT zs = zs.drop 60 := if_pos h
theorem readE_yes {zs : List Int} (h : Good zs) : readE zs = 0 := if_pos h
theorem not_good {zs : List Int} (h : zs.length ≠ 92) : ¬ Good zs := fun g => h g.1
/-- Was it written under the key? -/
def signB (ks zs : List Int) : Bool := decide (Good zs) && decide (zs.drop 60 = Sha.tagI ks (zs.take 60))

/-- The parts of a manifest's bytes. -/
theorem parts_of (m : Mn) (T : List Int) (h : m.dig.length = 32) :
    (bodyL m ++ T).take 4 = markL ∧ ((bodyL m ++ T).drop 4).take 16 = rawL (txtL m.name) 16 ∧ ((bodyL m ++ T).drop 20).take 4 = numL m.ver 4 ∧ ((bodyL m ++ T).drop 24).take 4 = numL m.size 4 ∧
    ((bodyL m ++ T).drop 28).take 32 = m.dig ∧ (bodyL m ++ T).drop 60 = T ∧ (bodyL m ++ T).take 60 = bodyL m := by
  have l1 : (rawL (txtL m.name) 16).length = 16 := raw_len _ _
  have l2 : (numL m.ver 4).length = 4 := num_len _ _
  have l3 : (numL m.size 4).length = 4 := num_len _ _
  have e : bodyL m ++ T = markL ++ (rawL (txtL m.name) 16 ++ (numL m.ver 4 ++ (numL m.size 4 ++ (m.dig ++ T)))) := by
    unfold bodyL
    rw [raw_all h, show rawL markL 4 = markL from rfl]
    simp only [List.nil_append, List.append_assoc]
  have d4 : (bodyL m ++ T).drop 4 = rawL (txtL m.name) 16 ++ (numL m.ver 4 ++ (numL m.size 4 ++ (m.dig ++ T))) := by rw [e]; exact List.drop_left' rfl
  have d20 : (bodyL m ++ T).drop 20 = numL m.ver 4 ++ (numL m.size 4 ++ (m.dig ++ T)) := by
    rw [show 20 = 4 + 16 from rfl, ← List.drop_drop, d4]; exact List.drop_left' l1
  have d24 : (bodyL m ++ T).drop 24 = numL m.size 4 ++ (m.dig ++ T) := by
    rw [show 24 = 20 + 4 from rfl, ← List.drop_drop, d20]; exact List.drop_left' l2
  have d28 : (bodyL m ++ T).drop 28 = m.dig ++ T := by
    rw [show 28 = 24 + 4 from rfl, ← List.drop_drop, d24]; exact List.drop_left' l3
  refine ⟨by rw [e]; exact List.take_left' rfl, by rw [d4]; exact List.take_left' l1, by rw [d20]; exact List.take_left' l2, by rw [d24]; exact List.take_left' l3, by rw [d28]; exact List.take_left' h, ?_, List.take_left' (body_len m)⟩
  exact List.drop_left' (body_len m)
theorem num_fit {x : Int} (h : Num x) : val (numL x 4) = x := val_fit ⟨by have := h.1; omega, by have := h.2; rw [show (256 : Int) ^ 4 = 4294967296 from rfl]; omega⟩
/-- A manifest that may be is read as it was written. -/
theorem good_back {m : Mn} (h : m.dig.length = 32) (hn : Nam.validL (Nam.all m.name) = true) (hv : Num m.ver) (hs : Num m.size) {T : List Int} (hT : T.length = 32) : Good (bodyL m ++ T) ∧ told (bodyL m ++ T) = m := by
  obtain ⟨p1, p2, p3, p4, p5, p6, p7⟩ := parts_of m T h
  obtain ⟨b1, b2⟩ := name_bytes hn
  have en : strOfNums (nameL (bodyL m ++ T)) = m.name := by
    unfold nameL
    rw [p2, trim_raw (by rw [txt_len]; exact b1) b2, str_txt]
  have ev : verL (bodyL m ++ T) = m.ver := by unfold verL; rw [p3, num_fit hv]
  have es : sizL (bodyL m ++ T) = m.size := by unfold sizL; rw [p4, num_fit hs]
  refine ⟨⟨by rw [List.length_append, body_len, hT], p1, by rw [en]; exact hn, by rw [ev]; exact hv, by rw [es]; exact hs⟩, ?_⟩
  unfold told
  rw [en, ev, es, show digL (bodyL m ++ T) = m.dig from p5]
theorem byte_back {m : Mn} (ks : List Int) (h : m.dig.length = 32) (hn : Nam.validL (Nam.all m.name) = true) (hv : Num m.ver) (hs : Num m.size) : Good (byteL ks m) ∧ readM (byteL ks m) = m ∧ readT (byteL ks m) = Sha.tagI ks (bodyL m) ∧ signB ks (byteL ks m) = true := by
  obtain ⟨g, t⟩ := good_back h hn hv hs (T := Sha.tagI ks (bodyL m)) (Sha.tag_len _ _)
  obtain ⟨p1, p2, p3, p4, p5, p6, p7⟩ := parts_of m (Sha.tagI ks (bodyL m)) h
  refine ⟨g, (readM_yes g).trans t, (readT_yes g).trans p6, ?_⟩
  unfold signB byteL
  rw [p6, p7]
  simp [show Good (bodyL m ++ Sha.tagI ks (bodyL m)) from g]
end Go.Proofs.YtjfalnhmmofdfaaDoor
