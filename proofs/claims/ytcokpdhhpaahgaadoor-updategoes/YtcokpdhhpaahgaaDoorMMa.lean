/-
  Several texts in one: MfMp, MfMk, MfSl, MfTr, MfRb, MfWk, MfBd, MfRe; each says its own conditions.
-/
import Derived.Test.YtcokpdhhpaahgaaDoorMFi
import Derived.Test.YtcokpdhhpaahgaaDoorMNa
import Derived.Test.YtcokpdhhpaahgaaDoorMSha
import Derived.Laws.BytesArg
import Derived.Test.YtcokpdhhpaahgaaDoorMShb
import Derived.Laws.StructEq
import Derived.Laws.IdiomStrings
import Derived.Deep.RegionHeld3
import Derived.Lib.SlBytesConst
namespace Go.Proofs.YtcokpdhhpaahgaaDoor.Man
open Go.RowKit Go.Lib

/-- The bytes of a text. -/
def txtL (s : ByteArray) : List Int := s.data.toList.map fun b => (b.toNat : Int)
theorem txt_len (s : ByteArray) : (txtL s).length = s.size := by rw [txtL, List.length_map]; exact Nam.size_list s
theorem txt_byt (s : ByteArray) : Byt (txtL s) := by
  intro n hn
  obtain ⟨b, _, rfl⟩ := List.mem_map.1 hn
  have := b.toNat_lt
  omega
theorem str_txt (s : ByteArray) : strOfNums (txtL s) = s := by
  apply ByteArray.ext
  apply Array.toList_inj.1
  rw [strOfNums_data]
  unfold txtL
  rw [List.map_map]
  conv => rhs; rw [← List.map_id s.data.toList]
  apply List.map_congr_left
  intro b _
  simp
/-- Is so much left of k bytes, if bytes 0 go at the end? -/
def trimN (xs : List Int) : Nat → Nat
  | 0 => 0
  | k + 1 => if xs.getD k 0 = 0 then trimN xs k else k + 1
def trimL (xs : List Int) : List Int := xs.take (trimN xs xs.length)
theorem trimN_le (xs : List Int) : ∀ k, trimN xs k ≤ k
  | 0 => Nat.le_refl _
  | k + 1 => by
    unfold trimN
    have := trimN_le xs k
    split <;> omega
theorem trimN_zero {xs : List Int} {k : Nat} (h : xs.getD k 0 = 0) : trimN xs (k + 1) = trimN xs k := by rw [trimN, if_pos h]
theorem trimN_some {xs : List Int} {k : Nat} (h : ¬ xs.getD k 0 = 0) : trimN xs (k + 1) = k + 1 := by rw [trimN, if_neg h]
theorem trimN_more {xs : List Int} {n : Nat} : ∀ k, (∀ j, n ≤ j → j < n + k → xs.getD j 0 = 0) → trimN xs (n + k) = trimN xs n
  | 0, _ => rfl
  | k + 1, h => by
    rw [← Nat.add_assoc, trimN_zero (h (n + k) (by omega) (by omega)), trimN_more k (fun j h1 h2 => h j h1 (by omega))]
theorem trim_raw {xs : List Int} {m : Nat} (hl : xs.length ≤ m) (hn : ∀ x ∈ xs, x ≠ 0) : trimL (rawL xs m) = xs := by
  unfold trimL
  have e : trimN (rawL xs m) (rawL xs m).length = xs.length := by
    rw [raw_len]
    obtain ⟨d, rfl⟩ : ∃ d, m = xs.length + d := ⟨m - xs.length, by omega⟩
    rw [trimN_more d (fun j h1 h2 => by rw [raw_at _ _ _ h2]; simp [List.getD_eq_getElem?_getD, List.getElem?_eq_none h1])]
    cases hx : xs.length with
    | zero => rfl
    | succ k =>
      refine trimN_some ?_
      rw [raw_at _ _ _ (by omega), List.getD_eq_getElem?_getD, List.getElem?_eq_getElem (by omega)]
      exact hn _ (List.getElem_mem _)
  rw [e]
  unfold rawL
  rw [List.take_of_length_le hl, List.take_left']
  rfl
theorem good_bytes {r : Int} (h : Nam.goodB r = true) : (encodeRune r).length ≤ 2 ∧ ∀ b ∈ encodeRune r, b ≠ 0 := by
  simp only [Nam.goodB, decide_eq_true_eq] at h
  unfold encodeRune
  by_cases c : r ≤ 127
  · rw [encodeRuneZ_one (by omega) c]
    refine ⟨by simp, fun b hb => ?_⟩
    simp only [List.map_cons, List.map_nil, List.mem_singleton] at hb
    subst hb
    intro e
    have := congrArg UInt8.toNat e
    rw [Nam.u8_toNat r (by omega) (by omega)] at this
    simp at this
    omega
  · rw [encodeRuneZ_two (by omega) (by omega)]
    refine ⟨by simp, fun b hb => ?_⟩
    simp only [List.map_cons, List.map_nil, List.mem_cons, List.not_mem_nil, or_false] at hb
    rcases hb with rfl | rfl
    · intro e
      have := congrArg UInt8.toNat e
      rw [Nam.u8_toNat _ (by omega) (by omega)] at this
      simp at this
      omega
    · intro e
      have := congrArg UInt8.toNat e
      rw [Nam.u8_toNat _ (by omega) (by omega)] at this
      simp at this
      omega
theorem flat_bytes : ∀ ks : List Int, (∀ r ∈ ks, Nam.goodB r = true) → (ks.flatMap encodeRune).length ≤ 2 * ks.length ∧ ∀ b ∈ ks.flatMap encodeRune, b ≠ 0
  | [], _ => ⟨by simp, fun b hb => by simp at hb⟩
  | r :: ks, h => by
    obtain ⟨h1, h2⟩ := good_bytes (h r (by simp))
    obtain ⟨h3, h4⟩ := flat_bytes ks (fun x hx => h x (by simp [hx]))
    rw [List.flatMap_cons, List.length_append, List.length_cons]
    refine ⟨by omega, fun b hb => ?_⟩
    rcases List.mem_append.1 hb with h5 | h5
    · exact h2 b h5
    · exact h4 b h5
/-- A name has at most 16 bytes, none of them 0. -/
theorem name_bytes {s : ByteArray} (h : Nam.validL (Nam.all s) = true) : s.size ≤ 16 ∧ ∀ x ∈ txtL s, x ≠ 0 := by
  unfold Nam.validL at h
  simp only [Bool.and_eq_true, decide_eq_true_eq, List.all_eq_true] at h
  obtain ⟨⟨h1, h2⟩, h3⟩ := h
  have e : (Nam.all s).flatMap encodeRune = s.data.toList := Nam.rs_back _ _ (Nat.le_refl _) (fun r hr => (Nam.good_ok (h3 r hr)).2.1)
  obtain ⟨h4, h5⟩ := flat_bytes _ h3
  rw [e] at h4 h5
  refine ⟨by rw [← Nam.size_list]; omega, fun x hx => ?_⟩
  obtain ⟨b, hb, rfl⟩ := List.mem_map.1 hx
  have := h5 b hb
  intro h0
  apply this
  apply UInt8.toNat_inj.1
  simp
  omega

/-- A manifest. -/
structure Mn where
  name : ByteArray
  ver : Int
  size : Int
  dig : List Int
def I64 (x : Int) : Prop := -9223372036854775808 ≤ x ∧ x ≤ 9223372036854775807
def Mn.Ok (m : Mn) : Prop := m.dig.length = 32 ∧ Byt m.dig ∧ I64 m.ver ∧ I64 m.size
def markL : List Int := [87, 76, 77, 49]
def zeroM : Mn := ⟨ByteArray.empty, 0, 0, List.replicate 32 0⟩
/-- What it says, as bytes. -/
def bodyL (m : Mn) : List Int := [] ++ rawL markL 4 ++ rawL (txtL m.name) 16 ++ numL m.ver 4 ++ numL m.size 4 ++ rawL m.dig 32
theorem body_len (m : Mn) : (bodyL m).length = 60 := by simp [bodyL, raw_len, num_len]
theorem byt_mark : Byt markL := by
  have h : ∀ n ∈ markL, 0 ≤ n ∧ n ≤ 255 := by decide
  exact h
theorem body_byt {m : Mn} (h : Byt m.dig) : Byt (bodyL m) := byt_app (byt_app (byt_app (byt_app (byt_app byt_nil (raw_byt byt_mark _)) (raw_byt (txt_byt _) _)) (num_byt _ _)) (num_byt _ _)) (raw_byt h _)
theorem raw_take (zs : List Int) (k : Nat) : rawL (zs.take k) k = rawL zs k := by
  unfold rawL
  rw [List.take_take, Nat.min_self, List.length_take]
  congr 2
  omega
theorem raw_all {zs : List Int} {k : Nat} (h : zs.length = k) : rawL zs k = zs := by
  unfold rawL
  rw [List.take_of_length_le (by omega), h, Nat.sub_self]
  simp
/-- And its tag. -/
def byteL (ks : List Int) (m : Mn) : List Int := bodyL m ++ Sha.tagI ks (bodyL m)
theorem byte_len (ks : List Int) (m : Mn) : (byteL ks m).length = 92 := by rw [byteL, List.length_append, body_len, Sha.tag_len]

def nameL (zs : List Int) : List Int := trimL ((zs.drop 4).take 16)
def verL (zs : List Int) : Int := val ((zs.drop 20).take 4)
def sizL (zs : List Int) : Int := val ((zs.drop 24).take 4)
def digL (zs : List Int) : List Int := (zs.drop 28).take 32
def Num (x : Int) : Prop := 1 ≤ x ∧ x ≤ 1073741824
/-- Are these bytes a manifest? -/
def Good (zs : List Int) : Prop := zs.length = 92 ∧ zs.take 4 = markL ∧ Nam.validL (Nam.all (strOfNums (nameL zs))) = true ∧ Num (verL zs) ∧ Num (sizL zs)
instance (x : Int) : Decidable (Num x) := by unfold Num; infer_instance
instance (zs : List Int) : Decidable (Good zs) := by unfold Good; infer_instance
def told (zs : List Int) : Mn := ⟨strOfNums (nameL zs), verL zs, sizL zs, digL zs⟩
def readM (zs : List Int) : Mn := if Good zs then told zs else zeroM
def readT (zs : List Int) : List Int := if Good zs then zs.drop 60 else []
def readE (zs : List Int) : Int := if Good zs then 0 else 6
theorem readM_no {zs : List Int} (h : ¬ Good zs) : readM zs = zeroM := if_neg h
theorem readT_no {zs : List Int} (h : ¬ Good zs) : readT zs = [] := if_neg h
theorem readE_no {zs : List Int} (h : ¬ Good zs) : readE zs = 6 := if_neg h
theorem readM_yes {zs : List Int} (h : Good zs) : readM zs = told zs := if_pos h
theorem readT_yes {zs : List Int} (h : Good zs) : readT zs = zs.drop 60 := if_pos h
theorem readE_yes {zs : List Int} (h : Good zs) : readE zs = 0 := if_pos h
theorem not_good {zs : List Int} (h : zs.length ≠ 92) : ¬ Good zs := fun g => h g.1
/-- Was it written under the key? -/
def signB (ks zs : List Int) : Bool := decide (Good zs) && decide (zs.drop 60 = Sha.tagI ks (zs.take 60))

/-- The parts of a manifest's bytes. -/
theorem parts_of (m : Mn) (T : List Int) (h : m.dig.length = 32) :
    (bodyL m ++ T).take 4 = markL ∧ ((bodyL m ++ T).drop 4).take 16 = rawL (txtL m.name) 16 ∧ ((bodyL m ++ T).drop 20).take 4 = numL m.ver 4 ∧ ((bodyL m ++ T).drop 24).take 4 = numL m.size 4 ∧
    ((bodyL m ++ T).drop 28).take 32 = m.dig ∧ (bodyL m ++ T).drop 60 = T ∧ (bodyL m ++ T).take 60 = bodyL m := by
  have l1 : (rawL (txtL m.name) 16).length = 16 := raw_len _ _
  have l2 : (numL m.ver 4).length = 4 := num_len _ _
  have l3 : (numL m.size 4).length = 4 := num_len _ _
  have e : bodyL m ++ T = markL ++ (rawL (txtL m.name) 16 ++ (numL m.ver 4 ++ (numL m.size 4 ++ (m.dig ++ T)))) := by
    unfold bodyL
    rw [raw_all h, show rawL markL 4 = markL from rfl]
    simp only [List.nil_append, List.append_assoc]
  have d4 : (bodyL m ++ T).drop 4 = rawL (txtL m.name) 16 ++ (numL m.ver 4 ++ (numL m.size 4 ++ (m.dig ++ T))) := by rw [e]; exact List.drop_left' rfl
  have d20 : (bodyL m ++ T).drop 20 = numL m.ver 4 ++ (numL m.size 4 ++ (m.dig ++ T)) := by
    rw [show 20 = 4 + 16 from rfl, ← List.drop_drop, d4]; exact List.drop_left' l1
  have d24 : (bodyL m ++ T).drop 24 = numL m.size 4 ++ (m.dig ++ T) := by
    rw [show 24 = 20 + 4 from rfl, ← List.drop_drop, d20]; exact List.drop_left' l2
  have d28 : (bodyL m ++ T).drop 28 = m.dig ++ T := by
    rw [show 28 = 24 + 4 from rfl, ← List.drop_drop, d24]; exact List.drop_left' l3
  refine ⟨by rw [e]; exact List.take_left' rfl, by rw [d4]; exact List.take_left' l1, by rw [d20]; exact List.take_left' l2, by rw [d24]; exact List.take_left' l3, by rw [d28]; exact List.take_left' h, ?_, List.take_left' (body_len m)⟩
  exact List.drop_left' (body_len m)
theorem num_fit {x : Int} (h : Num x) : val (numL x 4) = x := val_fit ⟨by have := h.1; omega, by have := h.2; rw [show (256 : Int) ^ 4 = 4294967296 from rfl]; omega⟩
/-- A manifest that may be is read as it was written. -/
theorem good_back {m : Mn} (h : m.dig.length = 32) (hn : Nam.validL (Nam.all m.name) = true) (hv : Num m.ver) (hs : Num m.size) {T : List Int} (hT : T.length = 32) : Good (bodyL m ++ T) ∧ told (bodyL m ++ T) = m := by
  obtain ⟨p1, p2, p3, p4, p5, p6, p7⟩ := parts_of m T h
  obtain ⟨b1, b2⟩ := name_bytes hn
  have en : strOfNums (nameL (bodyL m ++ T)) = m.name := by
    unfold nameL
    rw [p2, trim_raw (by rw [txt_len]; exact b1) b2, str_txt]
  have ev : verL (bodyL m ++ T) = m.ver := by unfold verL; rw [p3, num_fit hv]
  have es : sizL (bodyL m ++ T) = m.size := by unfold sizL; rw [p4, num_fit hs]
  refine ⟨⟨by rw [List.length_append, body_len, hT], p1, by rw [en]; exact hn, by rw [ev]; exact hv, by rw [es]; exact hs⟩, ?_⟩
  unfold told
  rw [en, ev, es, show digL (bodyL m ++ T) = m.dig from p5]
theorem byte_back {m : Mn} (ks : List Int) (h : m.dig.length = 32) (hn : Nam.validL (Nam.all m.name) = true) (hv : Num m.ver) (hs : Num m.size) : Good (byteL ks m) ∧ readM (byteL ks m) = m ∧ readT (byteL ks m) = Sha.tagI ks (bodyL m) ∧ signB ks (byteL ks m) = true := by
  obtain ⟨g, t⟩ := good_back h hn hv hs (T := Sha.tagI ks (bodyL m)) (Sha.tag_len _ _)
  obtain ⟨p1, p2, p3, p4, p5, p6, p7⟩ := parts_of m (Sha.tagI ks (bodyL m)) h
  refine ⟨g, (readM_yes g).trans t, (readT_yes g).trans p6, ?_⟩
  unfold signB byteL
  rw [p6, p7]
  simp [show Good (bodyL m ++ Sha.tagI ks (bodyL m)) from g]
end Go.Proofs.YtcokpdhhpaahgaaDoor.Man

namespace Go.Proofs.YtcokpdhhpaahgaaDoor.Man
open Go.RowKit
set_option linter.unusedVariables false
set_option linter.unusedSimpArgs false

theorem row_sha {w : World} {a : Option Addr} {n : Nat} {zs : List Int} (h : Row w a n zs) : Sha.Row w a n zs := h
theorem own_sha {w : World} {b n : Nat} {v : Value} {zs : List Int} (h : Own w b v n zs) : Sha.Own w b v n zs := h
theorem has_sha {w : World} {g : Nat} {t : TypeId} {cs : Array Value} (h : Has w g t cs) : Sha.Has w g t cs := h
theorem sha_has {w : World} {g : Nat} {t : TypeId} {cs : Array Value} (h : Sha.Has w g t cs) : Has w g t cs := h
theorem sha_row {w : World} {a : Option Addr} {n : Nat} {zs : List Int} (h : Sha.Row w a n zs) : Row w a n zs := h
theorem nums_sha (zs : List Int) : Sha.nums zs = nums zs := rfl

/-- A manifest's cells. -/
def Mn.cells (m : Mn) : Array Value := (Value.string m.name :: Value.int .i64 m.ver :: Value.int .i64 m.size :: nums m.dig).toArray
theorem mn_size {m : Mn} (h : m.dig.length = 32) : m.cells.size = 35 := by simp [Mn.cells, nums, h]
theorem mn_name (m : Mn) : m.cells[0]? = some (.string m.name) := rfl
theorem mn_ver (m : Mn) : m.cells[1]? = some (.int .i64 m.ver) := rfl
theorem mn_siz (m : Mn) : m.cells[2]? = some (.int .i64 m.size) := rfl
theorem mn_dig (m : Mn) (j : Nat) (hj : j < m.dig.length) : m.cells[3 + j]? = some (.int .u8 (m.dig.getD j 0)) := by
  have e : 3 + j = j + 3 := by omega
  rw [e]
  simp [Mn.cells, nums, List.getElem?_eq_getElem hj, List.getD_eq_getElem?_getD]
theorem mn_all (m : Mn) : m.cells.all (·.oneCell') = true := by
  rw [Array.all_eq_true_iff_forall_mem]
  intro v hv
  simp only [Mn.cells, List.mem_toArray, List.mem_cons] at hv
  rcases hv with rfl | rfl | rfl | hv
  · rfl
  · rfl
  · rfl
  · exact nums_one m.dig v hv
theorem size27 {m : Mn} (h : m.dig.length = 32) : (Tryd.prog.info? 52).map (·.size) = some m.cells.size := by
  rw [mn_size h]; kernel_rfl
theorem old27 {m k : Mn} (h : m.dig.length = 32) (h' : k.dig.length = 32) : m.cells.size = k.cells.size := by rw [mn_size h, mn_size h']
theorem zero_len : zeroM.dig.length = 32 := List.length_replicate
theorem zero_ok : zeroM.Ok := ⟨zero_len, byt_rep _, by unfold I64 zeroM; simp, by unfold I64 zeroM; simp⟩
theorem zero27_run : ∀ w : World, (zeroValue 52).run Tryd.prog w = .ok (.agg zeroM.cells) w := (zero_of_info (P := Tryd.prog) (t := 52) (n := 35) (by kernel_rfl)).1
theorem zero23_run : ∀ w : World, (zeroValue 22).run Tryd.prog w = .ok (.agg (nums (List.replicate 32 0)).toArray) w := Sha.zero24_run
theorem built27 : Tryd.prog.built 52 [] = some zeroM.cells := by kernel_rfl
/-- An image's cells. -/
def imgC (v n : Int) (d : List Int) : Array Value := (Value.int .i64 v :: Value.int .i64 n :: nums d).toArray
theorem built25 (v n : Int) : Tryd.prog.built 24 [(0, .int .i64 v), (1, .int .i64 n)] = some (imgC v n (List.replicate 32 0)) := by kernel_rfl
theorem built27i (s : ByteArray) (v n : Int) : Tryd.prog.built 52 [(0, .string s), (1, .agg (imgC v n (List.replicate 32 0)))] = some (Mn.cells ⟨s, v, n, List.replicate 32 0⟩) := by kernel_rfl
theorem mn_set0 (m : Mn) (s : ByteArray) : m.cells.setIfInBounds 0 (.string s) = Mn.cells ⟨s, m.ver, m.size, m.dig⟩ := by simp [Mn.cells]
theorem mn_set1 (m : Mn) (v : Int) : m.cells.setIfInBounds 1 (.int .i64 v) = Mn.cells ⟨m.name, v, m.size, m.dig⟩ := by simp [Mn.cells]
theorem mn_set2 (m : Mn) (v : Int) : m.cells.setIfInBounds 2 (.int .i64 v) = Mn.cells ⟨m.name, m.ver, v, m.dig⟩ := by simp [Mn.cells]
theorem mn_copy (m : Mn) (ys : List Int) (h : m.dig.length = 32) (hy : ys.length = 32) : (m.cells.toList.take 3 ++ (nums (ys.take 32) ++ m.cells.toList.drop (3 + 32))).toArray = Mn.cells ⟨m.name, m.ver, m.size, ys⟩ := by
  have e1 : m.cells.toList.take 3 = [Value.string m.name, Value.int .i64 m.ver, Value.int .i64 m.size] := rfl
  have e2 : m.cells.toList.drop (3 + 32) = [] := by
    apply List.drop_eq_nil_of_le
    rw [Array.length_toList, mn_size h]; omega
  rw [e1, e2, List.take_of_length_le (by omega)]
  simp [Mn.cells]
/-- The digest of a manifest in memory, as a row. -/
theorem dig_row {w : World} {g : Nat} {m : Mn} (h : Has w g 52 m.cells) (hl : m.dig.length = 32) (hb : Byt m.dig) : Row w (some ⟨g, 3, none⟩) 32 m.dig :=
  row_mk hl hb h.size (fun j hj => by rw [h.at, mn_dig m j (by omega)])

theorem bytes_beq (a : ByteArray) : (a.toList == a.toList) = true := by simp
theorem eq23 (zs : List Int) (h : zs.length = 32) (w : World) (d : Nat) : (Op.equalIn (d + 2) 22 (.agg (nums zs).toArray) (.agg (nums zs).toArray)).run Tryd.prog w = .ok true w := by
  obtain ⟨i, hi, _, _, _⟩ := info_parts info5
  rw [run_equalIn_array w (d + 1) (nums zs).toArray (nums zs).toArray Tryd.underlying22 hi, show Tryd.prog.cellsOf 5 = 1 by kernel_rfl]
  have key : ∀ is : List Nat, (∀ i ∈ is, i < zs.length) → (Op.eqItems (d + 1) 5 1 (nums zs).toArray (nums zs).toArray is).run Tryd.prog w = .ok true w := by
    intro is
    induction is with
    | nil => intro _; simp [Op.eqItems]
    | cons i is ih =>
      intro hh
      have hi : i < zs.length := hh i (by simp)
      have hp : (part 5 (nums zs).toArray (i * 1)).run Tryd.prog w = .ok (.int .u8 zs[i]) w := by
        have hc : (nums zs).toArray[i]? = some (.int .u8 zs[i]) := by simp [nums, hi]
        simp [part, go_sem, hc]
      have he : (Op.equalIn (d + 1) 5 (.int .u8 zs[i]) (.int .u8 zs[i])).run Tryd.prog w = .ok true w := by
        rw [run_equalIn_int w d 5 .u8 .u8 _ _ Tryd.underlying5]; simp
      simp only [Op.eqItems, Sem.run_bind, hp, Result.andThen_ok, he, Bool.not_true, Bool.false_eq_true, if_false]
      exact ih (fun j hj => hh j (by simp [hj]))
  exact key _ (fun i hi => by rw [h]; exact List.mem_range.1 hi)
theorem img_parts (m : Mn) (h : m.dig.length = 32) : m.cells.extract 1 (1 + 34) = imgC m.ver m.size m.dig ∧ (imgC m.ver m.size m.dig).extract 2 (2 + 32) = (nums m.dig).toArray := by
  have h2 : (nums m.dig).length = 32 := by rw [nums_len, h]
  constructor
  · simp [Mn.cells, imgC]
    exact List.take_of_length_le (by omega)
  · simp [imgC]
    exact List.take_of_length_le (by omega)
/-- A manifest is the same as itself. -/
theorem eq27 (m : Mn) (h : m.dig.length = 32) (w : World) : (Op.equalIn 10000 52 (.agg m.cells) (.agg m.cells)).run Tryd.prog w = .ok true w := by
  obtain ⟨e1, e2⟩ := img_parts m h
  have u27 : Tryd.prog.underlying 52 = some (.struct (Tryd.prog.fieldsOf 52)) := by kernel_rfl
  have u25 : Tryd.prog.underlying 24 = some (.struct (Tryd.prog.fieldsOf 24)) := by kernel_rfl
  have s27 : Tryd.prog.stoodInHeld 52 = false := by kernel_rfl
  have s25 : Tryd.prog.stoodInHeld 24 = false := by kernel_rfl
  have z25 : ∀ w : World, (sizeOf 24).run Tryd.prog w = .ok 34 w := fun w => by
    obtain ⟨i, hi, hsz⟩ := Option.map_eq_some_iff.1 (show (Tryd.prog.info? 24).map (·.size) = some 34 by kernel_rfl)
    simp [sizeOf, typeInfo, hi, hsz]
  have z23 : ∀ w : World, (sizeOf 22).run Tryd.prog w = .ok 32 w := fun w => by
    obtain ⟨i, hi, hsz⟩ := Option.map_eq_some_iff.1 (show (Tryd.prog.info? 22).map (·.size) = some 32 by kernel_rfl)
    simp [sizeOf, typeInfo, hi, hsz]
  have a25 : ∀ w : World, (isAgg 24).run Tryd.prog w = .ok true w := fun w => by unfold isAgg; rw [Sem.run_bind, run_underlying u25 w]; rfl
  have a23 : ∀ w : World, (isAgg 22).run Tryd.prog w = .ok true w := fun w => by unfold isAgg; rw [Sem.run_bind, run_underlying Tryd.underlying22 w]; rfl
  have a9 : ∀ w : World, (isAgg 9).run Tryd.prog w = .ok false w := fun w => by unfold isAgg; rw [Sem.run_bind, run_underlying Tryd.underlying9 w]; rfl
  have a3 : ∀ w : World, (isAgg 3).run Tryd.prog w = .ok false w := fun w => by unfold isAgg; rw [Sem.run_bind, run_underlying Tryd.underlying3 w]; rfl
  have p9 : ∀ w : World, (part 9 m.cells 0).run Tryd.prog w = .ok (.string m.name) w := fun w => by unfold part; rw [Sem.run_bind, a9]; rfl
  have p25 : ∀ w : World, (part 24 m.cells 1).run Tryd.prog w = .ok (.agg (imgC m.ver m.size m.dig)) w := fun w => by
    unfold part; rw [Sem.run_bind, a25]
    simp only [Result.andThen_ok, if_true, Sem.run_bind, z25, Sem.run_pure, e1]
  have p3 : ∀ w : World, (part 3 (imgC m.ver m.size m.dig) 0).run Tryd.prog w = .ok (.int .i64 m.ver) w := fun w => by unfold part; rw [Sem.run_bind, a3]; rfl
  have p3' : ∀ w : World, (part 3 (imgC m.ver m.size m.dig) 1).run Tryd.prog w = .ok (.int .i64 m.size) w := fun w => by unfold part; rw [Sem.run_bind, a3]; rfl
  have p23 : ∀ w : World, (part 22 (imgC m.ver m.size m.dig) 2).run Tryd.prog w = .ok (.agg (nums m.dig).toArray) w := fun w => by
    unfold part; rw [Sem.run_bind, a23]
    simp only [Result.andThen_ok, if_true, Sem.run_bind, z23, Sem.run_pure, e2]
  have q23 := fun w => eq23 m.dig h w 9996
  have qi : ∀ w : World, (Op.equalIn 9999 24 (.agg (imgC m.ver m.size m.dig)) (.agg (imgC m.ver m.size m.dig))).run Tryd.prog w = .ok true w := fun w => by
    rw [show (9999 : Nat) = 9998 + 1 from rfl, run_equalIn_agg w 9998 24 _ _ u25 s25]
    simp only [Program.fieldsOf, Tryd.underlying24, Op.eqFields, ne_eq, reduceCtorEq, not_false_eq_true, if_true, Sem.run_bind, p3, p3', p23, Result.andThen_ok, run_equalIn_int w 9997 3 .i64 .i64 _ _ Tryd.underlying3, q23, beq_self_eq_true, Bool.not_true, Bool.false_eq_true, if_false, Sem.run_pure, Sem.run_ite]
    rfl
  rw [show (10000 : Nat) = 9999 + 1 from rfl, run_equalIn_agg w 9999 52 _ _ u27 s27]
  simp only [Program.fieldsOf, Tryd.underlying52, Op.eqFields, ne_eq, reduceCtorEq, not_false_eq_true, if_true, Sem.run_bind, p9, p25, Result.andThen_ok, run_equalIn_string w 9998 9 _ _ Tryd.underlying9, qi, beq_self_eq_true, Bool.not_true, Bool.false_eq_true, if_false, Sem.run_pure, Sem.run_ite]
  rfl

/-- The world behind '[]byte(s)'. -/
def txtW (w : World) (s : ByteArray) : World := w.drew.alloc (.cells (bytesRow s (grownCap w s.size 0 5)) 5 ((bytesRow s (grownCap w s.size 0 5)).size, (bytesRow s (grownCap w s.size 0 5)).size + 1))
def txtC (w : World) (s : ByteArray) : Nat := grownCap w s.size 0 5
theorem txt_run (w : World) (s : ByteArray) : (convert 9 28 (.string s)).run Tryd.prog w = .ok (.slice (some ⟨w.heap.size, 0, none⟩) s.size (txtC w s)) (txtW w s) := run_bytes_of_string w 9 28 5 s Tryd.underlying9 Tryd.underlying28 Tryd.underlying5
theorem txt_below (w : World) (s : ByteArray) : Below w.heap.size w (txtW w s) := ((Below.refl _ _).drew).alloc (by simp) _
theorem txt_size (w : World) (s : ByteArray) : (txtW w s).heap.size = w.heap.size + 1 := by simp [txtW]
theorem txt_row (w : World) (s : ByteArray) : Row (txtW w s) (some ⟨w.heap.size, 0, none⟩) s.size (txtL s) := by
  refine row_mk (txt_len s) (txt_byt s) (by rw [txt_size]; omega) (fun j hj => ?_)
  unfold txtW
  rw [cell_of_row _ w.heap.size (0 + j) (bytesRow s (grownCap w s.size 0 5)) 5 _ (heap_alloc_new w.drew _), Nat.zero_add, bytesRow_at s _ j hj]
  have hj2 : j < s.data.toList.length := by rw [Nam.size_list]; exact hj
  simp [txtL, List.getD_eq_getElem?_getD, List.getElem?_eq_getElem hj2]
theorem txt_cap (s : ByteArray) (k : Nat) (h : k ≤ s.size) : txtL (s.extract 0 k) = (txtL s).take k := by
  simp [txtL, ByteArray.extract, ByteArray.copySlice]
end Go.Proofs.YtcokpdhhpaahgaaDoor.Man

namespace Go.Proofs.YtcokpdhhpaahgaaDoor.Man
open Go.RowKit
set_option linter.unusedVariables false
set_option linter.unusedSimpArgs false

theorem ret_bool {a b : Bool} (h : a = b) : Ending.returned (.bool a) = .returned (.bool b) := by rw [h]
theorem within_any (x : Int) (w : World) : Calls Tryd.prog 79 #[.int .i64 x, .int .i64 1073741824] w fun e w' => e = .returned (.bool (decide (Num x))) ∧ w = w' := by
  by_cases h1 : 1 ≤ x
  · by_cases h2 : x ≤ 1073741824
    · have e : decide (Num x) = true := decide_eq_true ⟨h1, h2⟩
      have d2 : decide (x ≤ 1073741824) = true := decide_eq_true h2
      rw [e]
      clear e
      go_enter Tryd.func79, Tryd.ntmps79
      go_wp2
      go_ret
      exact ⟨rfl, rfl⟩
    · have e : decide (Num x) = false := decide_eq_false (fun h => h2 h.2)
      have d2 : decide (x ≤ 1073741824) = false := decide_eq_false h2
      rw [e]
      clear e
      go_enter Tryd.func79, Tryd.ntmps79
      go_wp2
      go_ret
      exact ⟨rfl, rfl⟩
  · have e : decide (Num x) = false := decide_eq_false (fun h => h1 h.1)
    rw [e]
    clear e
    go_enter Tryd.func79, Tryd.ntmps79
    go_wp2
    go_ret
    exact ⟨rfl, rfl⟩
/-- May a manifest that was read be one? -/
def rightB (m : Mn) : Bool := Nam.validL (Nam.all m.name) && (decide (Num m.ver) && decide (Num m.size))
set_option maxRecDepth 100000 in
theorem right_any (m : Mn) (w : World) : Calls Tryd.prog 61 #[.agg m.cells] w fun e w' => e = .returned (.bool (rightB m)) ∧ Below w.heap.size w w' := by
  have hb : Below w.heap.size w (w.alloc (.cells m.cells 52)) := (Below.refl _ _).alloc (Nat.le_refl _) _
  have hh := has_new w 52 m.cells
  have c0 : (w.alloc (.cells m.cells 52)).cell? ⟨w.heap.size, 0, none⟩ = some (.string m.name) := hh.at 0
  have HV := Lib.hid (Nam.valid_any m.name (w.alloc (.cells m.cells 52)))
  cases hv : Nam.validL (Nam.all m.name) with
  | false =>
    rw [hv] at HV
    have e : rightB m = false := by unfold rightB; rw [hv]; rfl
    rw [e]
    clear e hv
    go_enter Tryd.func61, Tryd.ntmps61
    go_wp2_with (go_at_call 78; (with_reducible refine HV.out.mono ?_); rintro e w1 ⟨rfl, H1⟩)
    go_ret
    exact ⟨rfl, hb.trans (H1.mono hb.size)⟩
  | true =>
    rw [hv] at HV
    have e : rightB m = (decide (Num m.ver) && decide (Num m.size)) := by unfold rightB; rw [hv]; rfl
    rw [e]
    clear e hv
    cases h1 : decide (Num m.ver) with
    | false =>
      go_enter Tryd.func61, Tryd.ntmps61
      go_wp2_with (first
        | (go_at_call 78; (with_reducible refine HV.out.mono ?_); rintro e w1 ⟨rfl, H1⟩; have c1 : w1.cell? ⟨w.heap.size, 1, none⟩ = some (.int .i64 m.ver) := (hh.kept H1).at 1; have HW := Lib.hid (within_any m.ver w1); rw [h1] at HW)
        | (go_at_call 79; (with_reducible refine HW.out.mono ?_); rintro e w2 ⟨rfl, rfl⟩))
      go_ret
      exact ⟨rfl, hb.trans (H1.mono hb.size)⟩
    | true =>
      cases h2 : decide (Num m.size) with
      | false =>
        go_enter Tryd.func61, Tryd.ntmps61
        go_wp2_with (first
          | (go_at_call 78; (with_reducible refine HV.out.mono ?_); rintro e w1 ⟨rfl, H1⟩; have c1 : w1.cell? ⟨w.heap.size, 1, none⟩ = some (.int .i64 m.ver) := (hh.kept H1).at 1; have c2 : w1.cell? ⟨w.heap.size, 2, none⟩ = some (.int .i64 m.size) := (hh.kept H1).at 2; have HW := Lib.hid (within_any m.ver w1); rw [h1] at HW; have HX := Lib.hid (within_any m.size w1); rw [h2] at HX)
          | (go_at_call 79; (with_reducible refine HW.out.mono ?_); rintro e w2 ⟨rfl, rfl⟩; clear HW)
          | (go_at_call 79; (with_reducible refine HX.out.mono ?_); rintro e w3 ⟨rfl, rfl⟩))
        go_ret
        exact ⟨rfl, hb.trans (H1.mono hb.size)⟩
      | true =>
        go_enter Tryd.func61, Tryd.ntmps61
        go_wp2_with (first
          | (go_at_call 78; (with_reducible refine HV.out.mono ?_); rintro e w1 ⟨rfl, H1⟩; have c1 : w1.cell? ⟨w.heap.size, 1, none⟩ = some (.int .i64 m.ver) := (hh.kept H1).at 1; have c2 : w1.cell? ⟨w.heap.size, 2, none⟩ = some (.int .i64 m.size) := (hh.kept H1).at 2; have HW := Lib.hid (within_any m.ver w1); rw [h1] at HW; have HX := Lib.hid (within_any m.size w1); rw [h2] at HX)
          | (go_at_call 79; (with_reducible refine HW.out.mono ?_); rintro e w2 ⟨rfl, rfl⟩; clear HW)
          | (go_at_call 79; (with_reducible refine HX.out.mono ?_); rintro e w3 ⟨rfl, rfl⟩))
        go_ret
        exact ⟨rfl, hb.trans (H1.mono hb.size)⟩
end Go.Proofs.YtcokpdhhpaahgaaDoor.Man

namespace Go.Proofs.YtcokpdhhpaahgaaDoor.Man
open Go.RowKit
set_option linter.unusedVariables false
set_option linter.unusedSimpArgs false

theorem str_beq {xs ys : List Int} (hx : Byt xs) (hy : Byt ys) : ((strOfNums xs).toList == (strOfNums ys).toList) = decide (xs = ys) := by
  rw [Bool.eq_iff_iff, beq_iff_eq, decide_eq_true_eq, ByteArray.toList_eq, ByteArray.toList_eq, Array.toList_inj]
  exact ⟨fun h => (str_same hx hy).1 (ByteArray.ext h), fun h => by rw [h]⟩
theorem equal_any (a : Option Addr) (m c : Nat) (xs : List Int) (a' : Option Addr) (m' c' : Nat) (ys : List Int) (w : World) (hx : Row w a m xs) (hy : Row w a' m' ys) :
    Calls Tryd.prog 74 #[.slice a m c, .slice a' m' c'] w fun e w' => e = .returned (.bool (decide (xs = ys))) ∧ w = w' := by
  have h1 := conv_row (c := c) hx
  have h2 := conv_row (c := c') hy
  have hE := Lib.hid (str_beq hx.2.1 hy.2.1)
  clear hx hy
  go_enter Tryd.func74, Tryd.ntmps74
  go_wp2
  go_ret
  exact ⟨ret_bool hE.out, rfl⟩
theorem prefix_any (A : Option Addr) (n c : Nat) (zs : List Int) (B : Option Addr) (ys : List Int) (w : World) (hr : Row w A n zs) (h4 : 4 ≤ n) (hc : n ≤ c) (hy : Row w B 4 ys) :
    Calls Tryd.prog 58 #[.slice A n c, .slice B 4 4] w fun e w' => e = .returned (.bool (decide (zs.take 4 = ys))) ∧ w = w' := by
  have hh := row_upto hr 4 h4
  have HE := Lib.hid (equal_any A 4 c (zs.take 4) B 4 4 ys w hh hy)
  have hn : (4 : Int) ≤ (n : Int) := by omega
  clear hr hy hh
  go_enter Tryd.func58, Tryd.ntmps58
  go_wp2_with (go_at_call 74; (with_reducible refine HE.out.mono ?_); rintro e w1 ⟨rfl, rfl⟩)
  go_ret
  exact ⟨rfl, rfl⟩
def sLen : Value → Nat
  | .slice _ n _ => n
  | _ => 0
set_option maxRecDepth 100000 in
theorem trimByte_any (b off n c : Nat) (xs : List Int) (w : World) (hr : Row w (some ⟨b, off, none⟩) n xs) (hc : n ≤ c) (hn : n ≤ 1000000) :
    Calls Tryd.prog 86 #[.slice (some ⟨b, off, none⟩) n c, .int .u8 0] w fun e w' => e = .returned (.slice (some ⟨b, off, none⟩) (trimN xs n) c) ∧ w = w' := by
  have HC : ∀ j, j < n → w.cell? ⟨b, off + j, none⟩ = some (.int .u8 (xs.getD j 0)) := by
    intro j hj
    obtain ⟨b', off', e, _, h⟩ := row_open hr (by omega)
    cases e
    exact h j hj
  have HH := Lib.hid HC
  clear HC hr
  go_enter Tryd.func86, Tryd.ntmps86
  go_wp2
  go_loopw [0] (fun v wr => ∃ k : Nat, v = .slice (some ⟨b, off, none⟩) k c ∧ k ≤ n ∧ Hid (trimN xs k = trimN xs n) ∧ wr = w) (fun v _ => sLen v)
  case atStart => exact ⟨n, rfl, Nat.le_refl _, Lib.hid rfl, rfl⟩
  case round =>
    obtain ⟨k, rfl, hk, HT, rfl⟩ := hrel
    cases k with
    | zero =>
      go_wp2
      go_ret
      exact ⟨by rw [← HT.out]; rfl, rfl⟩
    | succ k =>
      have hcell := HH.out k (by omega)
      have hk3 : k + 1 ≤ 1000000 := by omega
      have hrun := run_upto wr (some ⟨b, off, none⟩) (k + 1) c .i64 k (by omega)
      by_cases h0 : xs.getD k 0 = 0
      · rw [h0] at hcell
        have HZ := Lib.hid (trimN_zero h0)
        clear h0
        go_wp2
        go_roundw
        case rel => exact ⟨k, rfl, by omega, Lib.hid (HZ.out.symm.trans HT.out), trivial⟩
        case measure => simp [sLen]
      · have HZ := Lib.hid (trimN_some h0)
        obtain ⟨x, hx⟩ : ∃ x, xs.getD k 0 = x := ⟨_, rfl⟩
        rw [hx] at hcell h0
        have hb : (x == 0) = false := by simpa using h0
        clear h0 hx
        go_wp2
        go_ret
        exact ⟨by rw [← HT.out, HZ.out]; rfl, rfl⟩
set_option maxRecDepth 100000 in
theorem trim_any (b off n c : Nat) (xs : List Int) (w : World) (hr : Row w (some ⟨b, off, none⟩) n xs) (hc : n ≤ c) (hn : n ≤ 1000000) (h0 : 0 < n) :
    Calls Tryd.prog 76 #[.slice (some ⟨b, off, none⟩) n c, .string ⟨#[0]⟩] w fun e w' => e = .returned (.slice (some ⟨b, off, none⟩) (trimN xs n) c) ∧ w = w' := by
  have HT := Lib.hid (trimByte_any b off n c xs w hr hc hn)
  have hne : ((n : Int) == 0) = false := by simp; omega
  have hz : (((({ data := #[0] } : ByteArray)[0]'(by decide)).toNat : Nat) : Int) = 0 := rfl
  clear hr
  go_enter Tryd.func76, Tryd.ntmps76
  go_wp2_with (go_at_call 86; (with_reducible refine HT.out.mono ?_); rintro e w1 ⟨rfl, rfl⟩)
  go_ret
  exact ⟨rfl, rfl⟩
end Go.Proofs.YtcokpdhhpaahgaaDoor.Man

namespace Go.Proofs.YtcokpdhhpaahgaaDoor.Man
open Go.RowKit
set_option linter.unusedVariables false
set_option linter.unusedSimpArgs false

theorem cutN16 : cutN 16 1000 = 16 := by decide
theorem cutN32 : cutN 32 1000 = 32 := by decide
theorem cutN48 : cutN 4 8 = 4 := by decide
theorem val_four {zs : List Int} (h : Byt zs) (hl : zs.length = 4) : w64 (val zs) = val zs := by
  have := val_pos h
  rw [hl, show (256 : Int) ^ 4 = 4294967296 from rfl] at this
  exact w64_in (by omega)
/-- Reading of a row from its k-th byte on. -/
theorem rraw_k {p T : Nat} {zs : List Int} (k n : Nat) (s : Int) (hs : cutN s 1000 = n) (hl : k + n ≤ zs.length) (w : World) (hS : Rd w p T ⟨zs.drop k, false⟩) :
    Calls Tryd.prog 62 #[.pointer (some ⟨p, 0, none⟩), .int .i64 s] w (GivesR ((zs.drop k).take n) w (RdTo p T ⟨zs.drop (k + n), false⟩ w)) := by
  have h := raw_any s w hS
  have hle : n ≤ (zs.drop k).length := by rw [List.length_drop]; omega
  rw [hs, got_yes rfl hle, aft_yes rfl hle] at h
  simp only [List.drop_drop] at h
  exact h
theorem num_at' {p T : Nat} {zs : List Int} (k : Nat) (hb : Byt zs) (hl : k + 4 ≤ zs.length) (w : World) (hS : Rd w p T ⟨zs.drop k, false⟩) :
    Calls Tryd.prog 77 #[.pointer (some ⟨p, 0, none⟩), .int .i64 4] w (GivesN (val ((zs.drop k).take 4)) (RdTo p T ⟨zs.drop (k + 4), false⟩ w)) := by
  have h := num_any 4 w hS
  have hle : 4 ≤ (zs.drop k).length := by rw [List.length_drop]; omega
  rw [cutN48, got_yes rfl hle, aft_yes rfl hle] at h
  simp only [List.drop_drop] at h
  rw [val_four (byt_take (byt_drop hb _) _) (by rw [List.length_take]; omega)] at h
  exact h
/-- Two manifests of the call's own, the second with what was read so far; and the reader. -/
def RB (w0 : World) (p T k : Nat) (zs : List Int) (m : Mn) (w : World) : Prop :=
  Rd w p T ⟨zs.drop k, false⟩ ∧ Has w (w0.heap.size + 1) 52 m.cells ∧ Has w w0.heap.size 52 zeroM.cells ∧ Only (fun b => b = p) w0 w ∧ p < w0.heap.size ∧ T ≤ p
theorem _root_.Go.Proofs.YtcokpdhhpaahgaaDoor.Rd.at {w : World} {p T : Nat} {S : Rs} (h : Rd w p T S) : p < w.heap.size := by
  obtain ⟨_, _, _, A, c, h4, _⟩ := h
  exact h4.size
theorem rb_start {w0 : World} {p T k : Nat} {zs : List Int} (h : Rd w0 p T ⟨zs.drop k, false⟩) : RB w0 p T k zs zeroM ((w0.alloc (.cells zeroM.cells 52)).alloc (.cells zeroM.cells 52)) := by
  have b1 : Below w0.heap.size w0 (w0.alloc (.cells zeroM.cells 52)) := (Below.refl _ _).alloc (Nat.le_refl _) _
  have b2 : Below w0.heap.size w0 ((w0.alloc (.cells zeroM.cells 52)).alloc (.cells zeroM.cells 52)) := b1.alloc (by simp) _
  have h2 := has_new (w0.alloc (.cells zeroM.cells 52)) 52 zeroM.cells
  rw [World.size_alloc] at h2
  exact ⟨h.only (P := fun _ => False) (Only.of_below b2) (fun b hb => hb.elim), h2, (has_new w0 52 zeroM.cells).more _, Only.of_below b2, h.at, h.2.1⟩
theorem rb_call {w0 w w' : World} {p T k k' : Nat} {zs : List Int} {m : Mn} (h : RB w0 p T k zs m w) (hc : RdTo p T ⟨zs.drop k', false⟩ w w') : RB w0 p T k' zs m w' := by
  obtain ⟨h1, h2, h3, h4, h5, h6⟩ := h
  exact ⟨hc.1, h2.only hc.2 (by omega), h3.only hc.2 (by omega), h4.trans hc.2, h5, h6⟩
theorem rb_drew {w0 w : World} {p T k : Nat} {zs : List Int} {m : Mn} (h : RB w0 p T k zs m w) : RB w0 p T k zs m w.drew := by
  obtain ⟨h1, h2, h3, h4, h5, h6⟩ := h
  have b : Below w.heap.size w w.drew := (Below.refl _ _).drew
  exact ⟨h1.only (P := fun _ => False) (Only.of_below b) (fun b hb => hb.elim), h2.kept b, h3.kept b, h4.below b, h5, h6⟩
theorem rb_put {w0 w : World} {p T k : Nat} {zs : List Int} {m m' : Mn} (h : RB w0 p T k zs m w) (i : Nat) (v : Value) (e : m.cells.setIfInBounds i v = m'.cells) : RB w0 p T k zs m' (w.setCell ⟨w0.heap.size + 1, i, none⟩ v) := by
  obtain ⟨h1, h2, h3, h4, h5, h6⟩ := h
  have o : Only (fun b => b = w0.heap.size + 1) w (w.setCell ⟨w0.heap.size + 1, i, none⟩ v) := (Only.refl (fun b => b = w0.heap.size + 1) w).setCell (q := ⟨w0.heap.size + 1, i, none⟩) rfl v
  have h2' := h2.put i v
  rw [e] at h2'
  exact ⟨h1.only o (fun b e => by omega), h2', h3.only o (by omega), h4.setNew (by simp) v, h5, h6⟩
theorem rb_row {w0 w : World} {p T k : Nat} {zs : List Int} {m : Mn} (h : RB w0 p T k zs m w) (ys : List Int) (hl : m.dig.length = 32) (hy : ys.length = 32) :
    RB w0 p T k zs ⟨m.name, m.ver, m.size, ys⟩ (w.setRow (w0.heap.size + 1) (m.cells.toList.take 3 ++ (nums (ys.take 32) ++ m.cells.toList.drop (3 + 32))).toArray) := by
  obtain ⟨h1, h2, h3, h4, h5, h6⟩ := h
  rw [mn_copy m ys hl hy]
  have o : Only (fun b => b = w0.heap.size + 1) w (w.setRow (w0.heap.size + 1) (Mn.cells ⟨m.name, m.ver, m.size, ys⟩)) := (Only.refl (fun b => b = w0.heap.size + 1) w).setRow (b := w0.heap.size + 1) rfl _
  exact ⟨h1.only o (fun b e => by omega), setRow_heap _ _ _ _ _ _ h2, h3.only o (by omega), ⟨o.os.trans h4.os, o.tape.trans h4.tape, o.output.trans h4.output, Nat.le_trans h4.size o.size, fun b hb hp => (o.block b (Nat.lt_of_lt_of_le hb h4.size) (by omega)).trans (h4.block b hb hp)⟩, h5, h6⟩
theorem rb_row2 {w0 w : World} {p T k : Nat} {zs : List Int} {m : Mn} (h : RB w0 p T k zs m w) (m' : Mn) (hl : m.dig.length = 32) : Only (fun b => b = p) w0 (w.setRow w0.heap.size m'.cells) ∧ Rd (w.setRow w0.heap.size m'.cells) p T ⟨zs.drop k, false⟩ := by
  obtain ⟨h1, h2, h3, h4, h5, h6⟩ := h
  have o : Only (fun b => b = w0.heap.size) w (w.setRow w0.heap.size m'.cells) := (Only.refl (fun b => b = w0.heap.size) w).setRow (b := w0.heap.size) rfl _
  exact ⟨⟨o.os.trans h4.os, o.tape.trans h4.tape, o.output.trans h4.output, Nat.le_trans h4.size o.size, fun b hb hp => (o.block b (Nat.lt_of_lt_of_le hb h4.size) (by omega)).trans (h4.block b hb hp)⟩, h1.only o (fun b e => by omega)⟩
theorem told_is (zs : List Int) : told zs = ⟨strOfNums (nameL zs), verL zs, sizL zs, digL zs⟩ := rfl
theorem dig_len {zs : List Int} (h : zs.length = 92) : (digL zs).length = 32 := by unfold digL; rw [List.length_take, List.length_drop]; omega
/-- What readBody leaves. -/
def ReadTo (zs : List Int) (p T : Nat) (w : World) (e : Ending) (w' : World) : Prop := e = .returned (.agg (told zs).cells) ∧ RdTo p T ⟨zs.drop 60, false⟩ w w'
set_option maxRecDepth 100000 in
set_option maxHeartbeats 4000000 in
theorem readBody_any {p T : Nat} {zs : List Int} (w : World) (hz : zs.length = 92) (hb : Byt zs) (hS : Rd w p T ⟨zs.drop 4, false⟩) :
    Calls Tryd.prog 60 #[.pointer (some ⟨p, 0, none⟩)] w (ReadTo zs p T w) := by
  have hz27 := zero27_run
  have HB0 := Lib.hid (rb_start hS)
  have HR1 := Lib.hid (rraw_k 4 16 16 cutN16 (by omega) _ HB0.out.1)
  have HL1 := Lib.hid (show ((zs.drop 4).take 16).length = 16 by rw [List.length_take, List.length_drop]; omega)
  have HN1 := Lib.hid (show (((zs.drop 4).take 16).take (trimN ((zs.drop 4).take 16) 16)) = nameL zs by unfold nameL trimL; rw [HL1.out])
  have HLD := Lib.hid (dig_len hz)
  clear hS
  go_enter Tryd.func60, Tryd.ntmps60
  go_wp2_with (first
    | (go_at_call 62; (with_reducible refine HR1.out.mono ?_); rintro e w1 ⟨v1, rfl, o1, t1⟩; clear HR1; have HB1 := Lib.hid (rb_call HB0.out t1); clear HB0; rw [HL1.out] at o1; obtain ⟨A1, c1, rfl, hc1, r1, _⟩ := o1.form; obtain ⟨b1, off1, rfl, _, _⟩ := row_open r1 (by omega); have HT := Lib.hid (trim_any b1 off1 16 c1 _ w1 r1 hc1 (by omega) (by omega)); have hcv := conv_row (c := c1) (row_upto r1 (trimN ((zs.drop 4).take 16) 16) (trimN_le _ _)); rw [HN1.out] at hcv; have q0 : w1.cell? ⟨w.heap.size + 1, 0, none⟩ = some (.string zeroM.name) := HB1.out.2.1.at 0; have f0 := HB1.out.2.1.soft 0; clear o1 r1 t1)
    | (go_at_call 76; (with_reducible refine HT.out.mono ?_); rintro e w2 ⟨rfl, rfl⟩; clear HT; have HB2 := Lib.hid (rb_put HB1.out 0 (.string (strOfNums (nameL zs))) (mn_set0 _ _)); clear HB1; have HV := Lib.hid (num_at' 20 hb (by omega) _ HB2.out.1))
    | (go_at_call 77; (with_reducible refine HV.out.mono ?_); rintro e w3 ⟨rfl, t3⟩; clear HV; have HB3 := Lib.hid (rb_call HB2.out t3); clear HB2 t3; have q3 : w3.cell? ⟨w.heap.size + 1, 1, none⟩ = some (.int .i64 0) := HB3.out.2.1.at 1; have f3 := HB3.out.2.1.soft 1; have HB4 := Lib.hid (rb_put HB3.out 1 (.int .i64 (val ((zs.drop 20).take 4))) (mn_set1 _ _)); clear HB3; have HX := Lib.hid (num_at' 24 hb (by omega) _ HB4.out.1))
    | (go_at_call 77; (with_reducible refine HX.out.mono ?_); rintro e w5 ⟨rfl, t5⟩; clear HX; have HB5 := Lib.hid (rb_call HB4.out t5); clear HB4 t5; have q5 : w5.cell? ⟨w.heap.size + 1, 2, none⟩ = some (.int .i64 0) := HB5.out.2.1.at 2; have f5 := HB5.out.2.1.soft 2; have HB6 := Lib.hid (rb_put HB5.out 2 (.int .i64 (val ((zs.drop 24).take 4))) (mn_set2 _ _)); clear HB5))
  generalize hW6 : w5.setCell ⟨w.heap.size + 1, 2, none⟩ (.int .i64 (val ((zs.drop 24).take 4))) = w6 at *
  clear hW6 q0 f0 q3 f3 q5 f5 hcv
  have HB7 := Lib.hid (rb_drew HB6.out)
  have HR7 := Lib.hid (rraw_k 28 32 32 cutN32 (by omega) _ HB7.out.1)
  have HS7 := Lib.hid (Only.refl (fun b => b = p ∨ b = w.heap.size + 1) w6.drew)
  have hz32 : zeroM.dig.length = 32 := zero_len
  refine wp_region_held_drew (S := fun W => Only (fun b => b = p ∨ b = w.heap.size + 1) w6.drew W) (by kernel_rfl) HS7.out ?_
  intro _
  refine wpAnyH_take (i := 0) (v := .pointer (some ⟨w.heap.size + 1, 1, none⟩)) rfl (by kernel_rfl) (by kernel_rfl) (by kernel_rfl) (fun _ _ _ h => h) (Or.inl ⟨by rfl, (fun W _ => by go_simp)⟩) HS7.out ?_
  simp only [List.getElem_toArray, List.getElem_cons_succ, List.getElem_cons_zero, Act.put, List.setIfInBounds_toArray, List.set_cons_zero, List.set_cons_succ]
  refine wpAnyH_take (i := 1) (v := .pointer (some ⟨w.heap.size + 1, 3, none⟩)) rfl (by kernel_rfl) (by kernel_rfl) (by kernel_rfl) (fun _ _ _ h => h) (Or.inl ⟨by rfl, (fun W _ => by go_simp)⟩) HS7.out ?_
  simp only [List.getElem_toArray, List.getElem_cons_succ, List.getElem_cons_zero, Act.put, List.setIfInBounds_toArray, List.set_cons_zero, List.set_cons_succ]
  refine wpAnyH_take (i := 2) (v := .slice (some ⟨w.heap.size + 1, 3, none⟩) 32 32) rfl (by kernel_rfl) (by kernel_rfl) (by kernel_rfl) (fun _ _ _ h => h) (Or.inl ⟨by rfl, (fun W _ => by go_simp)⟩) HS7.out ?_
  simp only [List.getElem_toArray, List.getElem_cons_succ, List.getElem_cons_zero, Act.put, List.setIfInBounds_toArray, List.set_cons_zero, List.set_cons_succ]
  refine wpAnyH_take (i := 3) (v := .pointer (some ⟨p, 0, none⟩)) rfl (by kernel_rfl) (by kernel_rfl) (by kernel_rfl) (fun _ _ _ h => h) (Or.inl ⟨by rfl, (fun W _ => by go_simp)⟩) HS7.out ?_
  simp only [List.getElem_toArray, List.getElem_cons_succ, List.getElem_cons_zero, Act.put, List.setIfInBounds_toArray, List.set_cons_zero, List.set_cons_succ]
  refine wpAnyH_ready (rs := [4]) (by kernel_rfl) (by simp) ?_
  refine AllReadyH.cons rfl (fun K hK => ?_) AllReadyH.nil
  go_simp
  refine (HR7.out).mono ?_
  rintro e w8 ⟨v8, rfl, o8, t8⟩; have HB8 := Lib.hid (rb_call HB7.out t8); have HS8 := Lib.hid (show Only (fun b => b = p ∨ b = w.heap.size + 1) w6.drew w8 from t8.2.mono (fun b e => .inl e)); rw [show ((zs.drop 28).take 32).length = 32 from HLD.out] at o8; obtain ⟨A8, c8, rfl, hc8, r8, _⟩ := o8.form; clear o8 t8
  refine hK.out _ _ HS8.out (fun _ => ?_)
  clear hK K
  refine wpAnyH_ready (rs := [5]) (by kernel_rfl) (by simp) ?_
  refine AllReadyH.cons rfl (fun K hK => ?_) AllReadyH.nil
  refine Sha.step_cp rfl (.tmp 19) (.tmp 21) rfl 32 (w.heap.size + 1) 3 32 32 rfl A8 32 c8 rfl (digL zs) (row_sha r8) rfl _ 52 (has_sha HB8.out.2.1) (Nat.le_of_eq (mn_size hz32).symm) ?_
  refine hK.out _ _ (HS8.out.setRow (.inr rfl) _) (fun _ => ?_)
  clear hK K
  refine wpAnyH_done (by kernel_rfl) ?_ _
  have HB9 : Hid (RB w p T 60 zs (told zs) (w8.setRow (w.heap.size + 1) (List.take 3 (Mn.cells ⟨strOfNums (nameL zs), val ((zs.drop 20).take 4), val ((zs.drop 24).take 4), zeroM.dig⟩).toList ++ (Sha.nums (List.take 32 (digL zs)) ++ List.drop (3 + 32) (Mn.cells ⟨strOfNums (nameL zs), val ((zs.drop 20).take 4), val ((zs.drop 24).take 4), zeroM.dig⟩).toList)).toArray)) := Lib.hid (rb_row HB8.out (digL zs) hz32 HLD.out)
  generalize hW9 : w8.setRow (w.heap.size + 1) (List.take 3 (Mn.cells ⟨strOfNums (nameL zs), val ((zs.drop 20).take 4), val ((zs.drop 24).take 4), zeroM.dig⟩).toList ++ (Sha.nums (List.take 32 (digL zs)) ++ List.drop (3 + 32) (Mn.cells ⟨strOfNums (nameL zs), val ((zs.drop 20).take 4), val ((zs.drop 24).take 4), zeroM.dig⟩).toList)).toArray = w9 at *
  have h9 : Has w9 (w.heap.size + 1) 52 (told zs).cells := HB9.out.2.1
  have g9 : Has w9 w.heap.size 52 zeroM.cells := HB9.out.2.2.1
  have hk : (told zs).dig.length = 32 := HLD.out
  obtain ⟨fin1, fin2⟩ := rb_row2 HB9.out (told zs) HLD.out
  clear HB6 HB7 HS7 HB8
  go_wp2_with (first
    | (refine wpList_load_row rfl 52 _ rfl (w.heap.size + 1) rfl 52 _ (0, 0) _ h9 Tryd.underlying52 rfl (size27 hk) ?_)
    | (refine wpList_store_row rfl 52 _ _ rfl w.heap.size (told zs).cells rfl rfl 52 _ g9 (size27 hk) (old27 hz32 hk) (mn_all _) ?_))
  exact bodyPost_ret (results_cell_row rfl _ _ w.heap.size 52 (told zs).cells (0, 0) _ rfl (setRow_heap _ _ _ _ _ _ g9) Tryd.underlying52 rfl (size27 hk)) rfl ⟨rfl, fin2, fin1⟩
end Go.Proofs.YtcokpdhhpaahgaaDoor.Man

namespace Go.Proofs.YtcokpdhhpaahgaaDoor.Man
open Go.RowKit
set_option linter.unusedVariables false
set_option linter.unusedSimpArgs false

/-- The program's writer at block p, made by a call that began at w0. -/
def Wk (w0 : World) (p : Nat) (zs : List Int) (w : World) : Prop := w0.heap.size ≤ p ∧ Below w0.heap.size w0 w ∧ ∃ P : Nat → Prop, Wr w p P zs ∧ ∀ b, P b → b < w.heap.size
/-- The document's; its row lies between p and B. -/
def Rk (w0 : World) (p B : Nat) (zs : List Int) (w : World) : Prop := w0.heap.size ≤ p ∧ B ≤ w.heap.size ∧ Below w0.heap.size w0 w ∧ ∃ P : Nat → Prop, Rw w p P zs ∧ ∀ b, P b → p < b ∧ b < B
theorem Wk.kept {w0 w w' : World} {p : Nat} {zs : List Int} (h : Wk w0 p zs w) (hb : Below w.heap.size w w') : Wk w0 p zs w' := by
  obtain ⟨h1, h2, P, h3, h4⟩ := h
  exact ⟨h1, h2.trans (hb.mono h2.size), P, h3.kept hb, fun b hb' => Nat.lt_of_lt_of_le (h4 b hb') hb.size⟩
theorem Rk.kept {w0 w w' : World} {p B : Nat} {zs : List Int} (h : Rk w0 p B zs w) (hb : Below w.heap.size w w') : Rk w0 p B zs w' := by
  obtain ⟨h1, h2, h3, P, h4, h5⟩ := h
  exact ⟨h1, Nat.le_trans h2 hb.size, h3.trans (hb.mono h3.size), P, h4.only (X := fun _ => False) (Only.of_below hb) (fun b hb => hb.elim), h5⟩
theorem wk_new (w0 w : World) (hb : Below w0.heap.size w0 w) : Wk w0 w.heap.size [] (w.alloc (.cells #[.pointer none, .int .i64 0] 57)) :=
  ⟨hb.size, hb.alloc hb.size _, fun _ => False, wnew w, fun b hb => hb.elim⟩
theorem rk_new (w0 w : World) (hb : Below w0.heap.size w0 w) : Rk w0 w.heap.size (w.heap.size + 1) [] (w.alloc (.cells #[.slice none 0 0] 75)) :=
  ⟨hb.size, by simp, hb.alloc hb.size _, fun _ => False, ⟨by simp, fun h => h, _, has_new _ _ _, own_nil _ _, fun g hg => by cases hg⟩, fun b hb => hb.elim⟩
/-- What a call leaves. -/
def WkTo (w0 : World) (p : Nat) (zs : List Int) (w : World) (e : Ending) (w' : World) : Prop := e = .returned (.tuple #[]) ∧ Wk w0 p zs w' ∧ Only (fun b => p ≤ b) w w'
def RkTo (w0 : World) (p : Nat) (zs : List Int) (w : World) (e : Ending) (w' : World) : Prop := e = .returned (.tuple #[]) ∧ Rk w0 p w'.heap.size zs w' ∧ Only (fun b => p ≤ b) w w'
theorem wk_to {w0 w w' : World} {p : Nat} {P : Nat → Prop} {zs : List Int} (h1 : w0.heap.size ≤ p) (h2 : Below w0.heap.size w0 w) (hP : ∀ b, P b → b < w.heap.size) (h : WrTo p P zs w w') : WkTo w0 p zs w (.returned (.tuple #[])) w' :=
  ⟨rfl, ⟨h1, h2.trans (h.2.to_below h2.size (fun b e => by omega)), _, h.1, h.lt hP⟩, h.2.mono fun b e => by omega⟩
theorem rk_to {w0 w w' : World} {p B : Nat} {P : Nat → Prop} {zs : List Int} (h1 : w0.heap.size ≤ p) (hB : B ≤ w.heap.size) (hp : p < w.heap.size) (h2 : Below w0.heap.size w0 w) (hP : ∀ b, P b → p < b ∧ b < B) (h : RwTo p P zs w w') : RkTo w0 p zs w (.returned (.tuple #[])) w' := by
  have ho : Only (fun b => p ≤ b) w w' := h.2.mono fun b e => by
    rcases e with e | e
    · omega
    · have := hP b e; omega
  refine ⟨rfl, ⟨h1, Nat.le_refl _, h2.trans (ho.to_below h2.size (fun b e => by omega)), _, h.1, fun b hb => ?_⟩, ho⟩
  rcases hb with hb | hb
  · have := hP b hb
    have := h.2.size
    omega
  · omega
theorem rk_raw {w0 : World} {p B : Nat} {zs : List Int} (A : Option Addr) (n c : Nat) (ys : List Int) (s : Int) (w : World) (hr : Row w A n ys) (hA : ∀ x, A = some x → x.block < p ∨ B ≤ x.block) (hBp : p < B) (hw : Rk w0 p B zs w) (hle : zs.length ≤ 900000) :
    Calls Tryd.prog 50 #[.pointer (some ⟨p, 0, none⟩), .slice A n c, .int .i64 s] w (RkTo w0 p (zs ++ rawL ys (cutN s 1000)) w) := by
  obtain ⟨h1, hB, h2, P, h3, h4⟩ := hw
  refine (rwraw_any A n c ys s w hr (fun _ x hx => ⟨by have := hA x hx; omega, fun hP => by have := hA x hx; have := h4 _ hP; omega⟩) h3 hle).mono ?_
  rintro e w' ⟨rfl, h⟩
  exact rk_to h1 hB h3.at h2 h4 h
theorem rk_num {w0 : World} {p B : Nat} {zs : List Int} (n s : Int) (w : World) (hw : Rk w0 p B zs w) (hle : zs.length ≤ 900000) :
    Calls Tryd.prog 51 #[.pointer (some ⟨p, 0, none⟩), .int .i64 n, .int .i64 s] w (RkTo w0 p (zs ++ numL n (cutN s 8)) w) := by
  obtain ⟨h1, hB, h2, P, h3, h4⟩ := hw
  refine (rwnum_any n s w h3 hle).mono ?_
  rintro e w' ⟨rfl, h⟩
  exact rk_to h1 hB h3.at h2 h4 h
theorem _root_.Go.Proofs.YtcokpdhhpaahgaaDoor.Own.raise {w : World} {base base' : Nat} {v : Value} {n : Nat} {zs : List Int} (h : Own w base v n zs) (hb : ∀ g, v.ownBlock = some g → base' ≤ g) : Own w base' v n zs := by
  obtain ⟨⟨h1, h2⟩, h3⟩ := h
  refine ⟨⟨h1, ?_⟩, h3⟩
  rcases h2 with h2 | ⟨g, cap, cur, e1, e2, e3⟩
  · exact .inl h2
  · refine .inr ⟨g, cap, cur, e1, hb g ?_, e3⟩
    rw [e1]
    rfl
/-- What it has written. -/
theorem rk_row {w0 : World} {p B : Nat} {zs : List Int} {w : World} (hw : Rk w0 p B zs w) : ∃ v, w.cell? ⟨p, 0, none⟩ = some v ∧ Own w w0.heap.size v zs.length zs ∧ Below w0.heap.size w0 w := by
  obtain ⟨h1, hB, h2, P, ⟨_, _, v, h3, h4, h5⟩, h6⟩ := hw
  exact ⟨v, h3.at 0, h4.raise (fun g hg => by have := h6 g (h5 g hg); omega), h2⟩
theorem Rk.wide {w0 w : World} {p B : Nat} {zs : List Int} (h : Rk w0 p B zs w) : Rk w0 p w.heap.size zs w := by
  obtain ⟨h1, hB, h2, P, h3, h4⟩ := h
  exact ⟨h1, Nat.le_refl _, h2, P, h3, fun b hb => by have := h4 b hb; omega⟩
end Go.Proofs.YtcokpdhhpaahgaaDoor.Man

namespace Go.Proofs.YtcokpdhhpaahgaaDoor.Man
open Go.RowKit
set_option linter.unusedVariables false
set_option linter.unusedSimpArgs false

def markC : Array Value := #[.int .u8 87, .int .u8 76, .int .u8 77, .int .u8 49]
theorem mark_row (w : World) : Row (w.alloc (.cells #[.int .u8 87, .int .u8 76, .int .u8 77, .int .u8 49] 5 (4, 5))) (some ⟨w.heap.size, 0, none⟩) 4 markL := row_text w markL byt_mark 4 rfl (4, 5)
theorem cut4 : cutN 4 1000 = 4 := by decide
theorem cut16 : cutN 16 1000 = 16 := by decide
theorem cut32 : cutN 32 1000 = 32 := by decide
theorem cut8_4 : cutN 4 8 = 4 := by decide
theorem bodyL_is (m : Mn) : bodyL m = [] ++ rawL markL 4 ++ rawL (txtL m.name) 16 ++ numL m.ver 4 ++ numL m.size 4 ++ rawL m.dig 32 := rfl
/-- How much of a name is copied. -/
theorem head_long (s : ByteArray) (h : 16 < (s.size : Int)) : ∃ nm : ByteArray, (∀ w : World, (convert 9 28 (.string (s.extract 0 16))).run Tryd.prog w = .ok (.slice (some ⟨w.heap.size, 0, none⟩) nm.size (txtC w nm)) (txtW w nm)) ∧ rawL (txtL nm) 16 = rawL (txtL s) 16 :=
  ⟨s.extract 0 16, fun w => txt_run w _, by rw [txt_cap s 16 (by omega), raw_take]⟩
theorem head_short (s : ByteArray) : ∃ nm : ByteArray, (∀ w : World, (convert 9 28 (.string s)).run Tryd.prog w = .ok (.slice (some ⟨w.heap.size, 0, none⟩) nm.size (txtC w nm)) (txtW w nm)) ∧ rawL (txtL nm) 16 = rawL (txtL s) 16 :=
  ⟨s, fun w => txt_run w _, rfl⟩
set_option maxRecDepth 100000 in
set_option maxHeartbeats 1000000 in
theorem rbody_any (m : Mn) (w : World) (hm : m.Ok) : Calls Tryd.prog 36 #[.agg m.cells] w (Gives 60 (bodyL m) w) := by
  obtain ⟨hl, hd, hv, hs⟩ := hm
  have ba : Below w.heap.size w (w.alloc (.cells m.cells 52)) := (Below.refl _ _).alloc (Nat.le_refl _) _
  have h0 := (has_new w 52 m.cells).more (.cells #[.slice none 0 0] 75)
  have kw0 := rk_new w (w.alloc (.cells m.cells 52)) ba
  rw [World.size_alloc] at kw0
  have kw1 := kw0.kept ((Below.refl _ _).alloc (Nat.le_refl _) (.cells #[.int .u8 87, .int .u8 76, .int .u8 77, .int .u8 49] 5 (4, 5)))
  have h1 := h0.more (.cells #[.int .u8 87, .int .u8 76, .int .u8 77, .int .u8 49] 5 (4, 5))
  have c1 : (((w.alloc (.cells m.cells 52)).alloc (.cells #[.slice none 0 0] 75)).alloc (.cells #[.int .u8 87, .int .u8 76, .int .u8 77, .int .u8 49] 5 (4, 5))).cell? ⟨w.heap.size, 0, none⟩ = some (.string m.name) := h1.at 0
  have hr1 := mark_row ((w.alloc (.cells m.cells 52)).alloc (.cells #[.slice none 0 0] 75))
  rw [World.size_alloc, World.size_alloc] at hr1
  have hcv := Lib.run_convert_bytes_const (P := Tryd.prog) ((w.alloc (.cells m.cells 52)).alloc (.cells #[.slice none 0 0] 75)) 28 5 #[.int .u8 87, .int .u8 76, .int .u8 77, .int .u8 49] 4 4 Tryd.underlying28 Tryd.underlying5
  simp only [World.size_alloc] at hcv
  have HW1 := Lib.hid (rk_raw _ 4 4 markL 4 _ hr1 (fun x hx => by cases hx; simp) (by omega) kw1 (by simp))
  rw [cut4] at HW1
  have htx := fun w => txt_run w m.name
  clear kw0 h0 kw1 hr1
  go_enter Tryd.func36, Tryd.ntmps36
  go_wp2_with (first
    | (go_at_call 50; (with_reducible refine HW1.out.mono ?_); rintro e w3 ⟨rfl, k3, o3⟩; clear HW1; have h3 := h1.only o3 (by omega); have d3 : w3.cell? ⟨w.heap.size, 0, none⟩ = some (.string m.name) := h3.at 0; have s3 := o3.size; simp only [World.size_alloc] at s3; have kt := k3.kept (txt_below w3 m.name); have ht := h3.kept (txt_below w3 m.name); have hrt := txt_row w3 m.name; have HW2 := Lib.hid (rk_raw _ m.name.size (txtC w3 m.name) _ 16 _ hrt (fun x hx => by cases hx; exact .inr (Nat.le_refl _)) (by omega) kt (by simp [raw_len])); rw [cut16] at HW2)
    | (go_at_call 50; (with_reducible refine HW2.out.mono ?_); rintro e w4 ⟨rfl, k4, o4⟩; clear HW2; have h4 := ht.only o4 (by omega); have d4 : w4.cell? ⟨w.heap.size, 1, none⟩ = some (.int .i64 m.ver) := h4.at 1; have HN1 := Lib.hid (rk_num m.ver 4 w4 k4 (by simp [raw_len])); rw [cut8_4] at HN1)
    | (go_at_call 51; (with_reducible refine HN1.out.mono ?_); rintro e w5 ⟨rfl, k5, o5⟩; clear HN1; have h5 := h4.only o5 (by omega); have d5 : w5.cell? ⟨w.heap.size, 2, none⟩ = some (.int .i64 m.size) := h5.at 2; have HN2 := Lib.hid (rk_num m.size 4 w5 k5 (by simp [raw_len, num_len])); rw [cut8_4] at HN2)
    | (go_at_call 51; (with_reducible refine HN2.out.mono ?_); rintro e w6 ⟨rfl, k6, o6⟩; clear HN2; have h6 := h5.only o6 (by omega); have s6 := txt_size w3 m.name; have s61 := o4.size; have s62 := o5.size; have s63 := o6.size; have HW3 := Lib.hid (rk_raw _ 32 32 m.dig 32 w6 (dig_row h6 hl hd) (fun x hx => by cases hx; exact .inl (by simp)) (by omega) k6 (by simp [raw_len, num_len])); rw [cut32] at HW3)
    | (go_at_call 50; (with_reducible refine HW3.out.mono ?_); rintro e w7 ⟨rfl, k7, o7⟩; clear HW3; obtain ⟨v7, q7, own7, b7⟩ := rk_row k7; rw [← bodyL_is, body_len] at own7; obtain ⟨A7, c7, rfl, _, _, _⟩ := own7.form))
  go_ret
  exact ⟨_, rfl, own7, b7⟩
end Go.Proofs.YtcokpdhhpaahgaaDoor.Man

namespace Go.Proofs.YtcokpdhhpaahgaaDoor.Man
open Go.RowKit
set_option linter.unusedVariables false
set_option linter.unusedSimpArgs false

/-- Results: a manifest that lies in a block, and two more. -/
theorem results_row3 {fn : Func} {p u v : Tmp} (h : fn.results = #[.cell p 52, .tmp u, .tmp v]) (tmps : Array Value) (w : World) (g : Nat) (m : Mn)
    (hp : tmps.getD p undef = .pointer (some ⟨g, 0, none⟩)) (hg : Has w g 52 m.cells) (hl : m.dig.length = 32) :
    (results fn tmps).run Tryd.prog w = .ok (.tuple #[.agg m.cells, tmps.getD u undef, tmps.getD v undef]) w := by
  have hp' : tmps[p]?.getD undef = .pointer (some ⟨g, 0, none⟩) := by simpa using hp
  have hr := run_loadVar_row w g 52 52 m.cells (0, 0) _ hg Tryd.underlying52 rfl (size27 hl)
  simp [results, h, hp', asAddr, hr]
theorem only_grown {w w' : World} {e : Nat} (h : w.grownBy w' (some e)) : Only (fun b => b = e) w w' := ⟨h.os, h.tape, h.output, h.size, fun b hb hp => h.block b hb (fun x => hp (by injection x))⟩
/-- A whole manifest is loaded, in a region that draws its order. -/
theorem yields_mn {ops : Array Oper} {S : World → Prop} {o : Oper} {a : Act} (hw : Region.wanted o (yielded ops a.tmps) = true) (x : Operand) (ho : o.op = .load 52 x) (g : Nat) (hx : a.eval x = .pointer (some ⟨g, 0, none⟩)) (m : Mn)
    (hS : ∀ W, S W → Has W g 52 m.cells) (hl : m.dig.length = 32) : YieldsIf Tryd.prog ops S o (.agg m.cells) a :=
  Or.inl ⟨hw, fun W hW => by
    have hr := run_loadVar_row W g 52 52 m.cells (0, 0) _ (hS W hW) Tryd.underlying52 rfl (size27 hl)
    unfold execOp
    simp only [ho, hx, Instr.loadAt, Instr.sureAddr, Sem.run_bind, Sem.run_pure, Result.andThen_ok, hr]⟩
theorem step_store {w : World} {ops : Array Oper} {o : Oper} {a : Act} {K : Act → World → Prop} {Q : Exit → Act → World → Prop} {E : Prop} (hgd : o.guard = none) (x y : Operand) (ho : o.op = .store 52 x y)
    (g : Nat) (m : Mn) (hx : a.eval x = .pointer (some ⟨g, 0, none⟩)) (hy : a.eval y = .agg m.cells) (old : Mn) (hg : Has w g 52 old.cells) (hl : m.dig.length = 32) (hl' : old.dig.length = 32)
    (h : K (a.put o.dst undef) (w.setRow g m.cells)) : if Region.wanted o (yielded ops a.tmps) = true then Oper.wp Tryd.prog o a w K Q else E := by
  have hw : Region.wanted o (yielded ops a.tmps) = true := by simp [Region.wanted, hgd]
  rw [if_pos hw]
  exact wp_store_row 52 x y ho g m.cells hx hy 52 old.cells hg (size27 hl) (old27 hl' hl) (mn_all _) h
theorem right_is {zs : List Int} (hz : zs.length = 92) (hm : zs.take 4 = markL) : rightB (told zs) = decide (Good zs) := by
  rw [Bool.eq_iff_iff]
  unfold rightB
  simp only [Bool.and_eq_true, decide_eq_true_eq]
  exact ⟨fun ⟨a, b, c⟩ => ⟨hz, hm, a, b, c⟩, fun ⟨_, _, a, b, c⟩ => ⟨a, b, c⟩⟩
/-- What Read answers. -/
def ReadsM (zs : List Int) (w : World) (e : Ending) (w' : World) : Prop := ∃ v, e = .returned (.tuple #[.agg (readM zs).cells, v, .int .i64 (readE zs)]) ∧ Own w' w.heap.size v (readT zs).length (readT zs) ∧ Below w.heap.size w w'
theorem reads_none {zs : List Int} {w w' : World} (h : ¬ Good zs) (hb : Below w.heap.size w w') : ReadsM zs w (.returned (.tuple #[.agg zeroM.cells, .slice none 0 0, .int .i64 6])) w' :=
  ⟨.slice none 0 0, by rw [readM_no h, readE_no h], by rw [readT_no h]; exact own_nil _ _, hb⟩
set_option maxRecDepth 100000 in
set_option maxHeartbeats 4000000 in
theorem read_any (A : Option Addr) (n c : Nat) (zs : List Int) (w : World) (hr : Row w A n zs) (hc : n ≤ c) (hn : n ≤ 1000000) : Calls Tryd.prog 40 #[.slice A n c] w (ReadsM zs w) := by
  have hz27 := zero27_run
  have ba : Below w.heap.size w (w.alloc (.cells zeroM.cells 52)) := (Below.refl _ _).alloc (Nat.le_refl _) _
  have h0 := has_new w 52 zeroM.cells
  by_cases h92 : n = 92
  · subst h92
    obtain ⟨b, off, rfl, hbw, hcell⟩ := row_open hr (by omega)
    have hl := hr.1
    have hB := Lib.hid hr.2.1
    have bm : Below w.heap.size w ((w.alloc (.cells zeroM.cells 52)).alloc (.cells #[.int .u8 87, .int .u8 76, .int .u8 77, .int .u8 49] 5 (4, 5))) := ba.alloc (by simp) _
    have hm0 := mark_row (w.alloc (.cells zeroM.cells 52))
    rw [World.size_alloc] at hm0
    have hcv := Lib.run_convert_bytes_const (P := Tryd.prog) (w.alloc (.cells zeroM.cells 52)) 28 5 #[.int .u8 87, .int .u8 76, .int .u8 77, .int .u8 49] 4 4 Tryd.underlying28 Tryd.underlying5
    simp only [World.size_alloc] at hcv
    have HP := Lib.hid (prefix_any (some ⟨b, off, none⟩) 92 c zs _ markL _ (row_below bm hr) (by omega) hc hm0)
    have HRR := Lib.hid hr
    clear hr hcell hm0
    by_cases hmk : zs.take 4 = markL
    · have HMK := Lib.hid hmk
      rw [decide_eq_true hmk] at HP
      clear hmk
      have r4 := row_from HRR.out 4 (by omega)
      have HNR := Lib.hid (newReader_any _ (92 - 4) (c - 4) (zs.drop 4) _ (row_below bm r4) (by omega))
      have hbx : ∀ x : Bool, rightB (told zs) = x → Calls Tryd.prog 40 #[.slice (some ⟨b, off, none⟩) 92 c] w (ReadsM zs w) := by
        intro x hx
        cases x with
        | false =>
          have HG := Lib.hid (show ¬ Good zs from fun g => by rw [right_is hl HMK.out, decide_eq_true g] at hx; cases hx)
          go_enter Tryd.func40, Tryd.ntmps40
          go_wp2_with (first
            | (go_at_call 58; (with_reducible refine HP.out.mono ?_); rintro e w1 ⟨rfl, rfl⟩; clear HP)
            | (go_at_call 59; (with_reducible refine HNR.out.mono ?_); rintro e w2 ⟨p, rfl, hp, hd, b2⟩; clear HNR; have hlt := hd.at; have h2 : Has w2 w.heap.size 52 zeroM.cells := (h0.more _).kept b2; have c2 := bm.trans (b2.mono bm.size); have HRB := Lib.hid (readBody_any w2 hl hB.out hd); simp only [World.size_alloc] at hp)
            | (go_at_call 60; (with_reducible refine HRB.out.mono ?_); rintro e w3 ⟨rfl, t3⟩; clear HRB; have h3 := h2.only t3.2 (by omega); have c3 : Below w.heap.size w w3 := c2.trans (t3.2.to_below c2.size (fun b e => by omega)); have hne := has_new w3 52 zeroM.cells)
            | (refine Sha.wpList_row rfl 52 _ _ rfl w3.heap.size (told zs).cells rfl rfl 52 _ hne (size27 (dig_len hl)) (old27 zero_len (dig_len hl)) (mn_all _) ?_; intro w4 hs4 hon4; have c4 := Sha.below_only (c3.alloc c3.size (.cells zeroM.cells 52)) hon4 c3.size (c3.alloc c3.size (.cells zeroM.cells 52)).size; have h4 : Has w4 w.heap.size 52 zeroM.cells := (hon4.block _ (h3.more _).size (by have := h3.size; intro e; injection e; omega)).trans (h3.more _); have HRT := Lib.hid (right_any (told zs) w4); rw [hx] at HRT)
            | (refine wpList_load_row rfl 52 _ rfl w3.heap.size rfl 52 _ (0, 0) _ hs4 Tryd.underlying52 rfl (size27 (dig_len hl)) ?_)
            | (go_at_call 61; (with_reducible refine HRT.out.mono ?_); rintro e w5 ⟨rfl, b5⟩; clear HRT; have h5 := h4.kept b5; have c5 := c4.trans (b5.mono c4.size))
            | (refine Sha.wpList_build_to rfl 52 _ rfl _ built27 ?_)
            | (refine wpList_store_row rfl 52 _ _ rfl w.heap.size zeroM.cells rfl rfl 52 _ h5 (size27 zero_len) rfl (mn_all _) ?_))
          exact bodyPost_ret (results_row3 (p := 2) (u := 3) (v := 4) rfl _ _ w.heap.size zeroM rfl (setRow_heap _ _ _ _ _ _ h5) zero_len) rfl (reads_none HG.out (below_setRow c5 (Nat.le_refl _) _))
        | true =>
          have HG := Lib.hid (show Good zs from by rw [right_is hl HMK.out] at hx; exact of_decide_eq_true hx)
          go_enter Tryd.func40, Tryd.ntmps40
          go_wp2_with (first
            | (go_at_call 58; (with_reducible refine HP.out.mono ?_); rintro e w1 ⟨rfl, rfl⟩; clear HP)
            | (go_at_call 59; (with_reducible refine HNR.out.mono ?_); rintro e w2 ⟨p, rfl, hp, hd, b2⟩; clear HNR; have hlt := hd.at; have h2 : Has w2 w.heap.size 52 zeroM.cells := (h0.more _).kept b2; have c2 := bm.trans (b2.mono bm.size); have HRB := Lib.hid (readBody_any w2 hl hB.out hd); simp only [World.size_alloc] at hp)
            | (go_at_call 60; (with_reducible refine HRB.out.mono ?_); rintro e w3 ⟨rfl, t3⟩; clear HRB; have h3 := h2.only t3.2 (by omega); have c3 : Below w.heap.size w w3 := c2.trans (t3.2.to_below c2.size (fun b e => by omega)); have hne := has_new w3 52 zeroM.cells)
            | (refine Sha.wpList_row rfl 52 _ _ rfl w3.heap.size (told zs).cells rfl rfl 52 _ hne (size27 (dig_len hl)) (old27 zero_len (dig_len hl)) (mn_all _) ?_; intro w4 hs4 hon4; have c4 := Sha.below_only (c3.alloc c3.size (.cells zeroM.cells 52)) hon4 c3.size (c3.alloc c3.size (.cells zeroM.cells 52)).size; have h4 : Has w4 w.heap.size 52 zeroM.cells := (hon4.block _ (h3.more _).size (by have := h3.size; intro e; injection e; omega)).trans (h3.more _); have HRT := Lib.hid (right_any (told zs) w4); rw [hx] at HRT)
            | (refine wpList_load_row rfl 52 _ rfl w3.heap.size rfl 52 _ (0, 0) _ hs4 Tryd.underlying52 rfl (size27 (dig_len hl)) ?_)
            | (go_at_call 61; (with_reducible refine HRT.out.mono ?_); rintro e w5 ⟨rfl, b5⟩; clear HRT; have h5 := h4.kept b5; have c5 := c4.trans (b5.mono c4.size); have hs5 := Has.kept (sha_has hs4) b5; have hd5 : Rd w5 p p ⟨zs.drop 60, false⟩ := ((t3.1.only (P := fun _ => False) (Only.of_below ((Below.refl _ _).alloc (Nat.le_refl _) (.cells zeroM.cells 52))) (fun b hb => hb.elim)).only (only_grown hon4) (fun b e => by have := t3.1.at; omega)).only (P := fun _ => False) (Only.of_below b5) (fun b hb => hb.elim)))
          have hp3 : p < w3.heap.size := t3.1.at
          have hw3 : w.heap.size < w3.heap.size := h3.size
          have bd : Below w5.heap.size w5 w5.drew := (Below.refl _ _).drew
          have HD := Lib.hid (hd5.only (P := fun _ => False) (Only.of_below bd) (fun b hb => hb.elim))
          have HH := Lib.hid (hs5.kept bd)
          have HZ := Lib.hid (h5.kept bd)
          have HR7 := Lib.hid (rraw_k 60 32 32 cutN32 (by omega) _ HD.out)
          have HL7 := Lib.hid (show ((zs.drop 60).take 32).length = 32 by rw [List.length_take, List.length_drop]; omega)
          have HT7 := Lib.hid (show (zs.drop 60).take 32 = zs.drop 60 from List.take_of_length_le (by rw [List.length_drop]; omega))
          have HS7 := Lib.hid (Only.refl (fun b => b = p ∨ b = w.heap.size) w5.drew)
          have HC7 := Lib.hid (c5.trans (bd.mono c5.size))
          clear hs4 hs5 hd5 h4 h5 t3 hon4 h3 h2 hd
          refine wp_region_held_drew (S := fun W => Only (fun b => b = p ∨ b = w.heap.size) w5.drew W) (by kernel_rfl) HS7.out ?_
          intro _
          refine wpAnyH_take (i := 0) (v := .agg (told zs).cells) rfl (by kernel_rfl) (by kernel_rfl) (by kernel_rfl) (fun _ _ _ h => h) (yields_mn (by rfl) (.tmp 6) rfl w3.heap.size rfl (told zs) (fun W hW => Has.only HH.out hW (by omega)) (dig_len hl)) HS7.out ?_
          simp only [List.getElem_toArray, List.getElem_cons_succ, List.getElem_cons_zero, Act.put, List.setIfInBounds_toArray, List.set_cons_zero, List.set_cons_succ]
          refine wpAnyH_take (i := 1) (v := .pointer (some ⟨p, 0, none⟩)) rfl (by kernel_rfl) (by kernel_rfl) (by kernel_rfl) (fun _ _ _ h => h) (Or.inl ⟨by rfl, (fun W _ => by go_simp)⟩) HS7.out ?_
          simp only [List.getElem_toArray, List.getElem_cons_succ, List.getElem_cons_zero, Act.put, List.setIfInBounds_toArray, List.set_cons_zero, List.set_cons_succ]
          refine wpAnyH_ready (rs := [2]) (by kernel_rfl) (by simp) ?_
          refine AllReadyH.cons rfl (fun K hK => ?_) AllReadyH.nil
          go_simp
          refine (HR7.out).mono ?_
          rintro e w8 ⟨v8, rfl, o8, t8⟩; have HZ8 := Lib.hid (Has.only HZ.out t8.2 (by omega)); have HS8 := Lib.hid (show Only (fun b => b = p ∨ b = w.heap.size) w5.drew w8 from t8.2.mono (fun b e => .inl e)); rw [HL7.out, HT7.out] at o8; obtain ⟨A8, c8, rfl, hc8, r8, _⟩ := o8.form
          refine hK.out _ _ HS8.out (fun _ => ?_)
          clear hK K
          refine wpAnyH_ready (rs := [3]) (by kernel_rfl) (by simp) ?_
          refine AllReadyH.cons rfl (fun K hK => ?_) AllReadyH.nil
          refine step_store rfl (.tmp 2) (.tmp 27) rfl w.heap.size (told zs) rfl rfl zeroM HZ8.out (dig_len hl) zero_len ?_
          have HS9 := Lib.hid (show Only (fun b => b = p ∨ b = w.heap.size) w5.drew (w8.setRow w.heap.size (told zs).cells) from HS8.out.setRow (.inr rfl) _)
          refine hK.out _ _ HS9.out (fun _ => ?_)
          clear hK K
          refine wpAnyH_take (i := 4) (v := .slice A8 32 c8) rfl (by kernel_rfl) (by kernel_rfl) (by kernel_rfl) (fun _ _ _ h => h) (Or.inl ⟨by rfl, (fun W _ => by go_simp)⟩) HS9.out ?_
          simp only [List.getElem_toArray, List.getElem_cons_succ, List.getElem_cons_zero, Act.put, List.setIfInBounds_toArray, List.set_cons_zero, List.set_cons_succ]
          refine wpAnyH_take (i := 5) (v := .int .i64 0) rfl (by kernel_rfl) (by kernel_rfl) (by kernel_rfl) (fun _ _ _ h => h) (Or.inl ⟨by rfl, (fun W _ => by go_simp)⟩) HS9.out ?_
          simp only [List.getElem_toArray, List.getElem_cons_succ, List.getElem_cons_zero, Act.put, List.setIfInBounds_toArray, List.set_cons_zero, List.set_cons_succ]
          refine wpAnyH_done (by kernel_rfl) ?_ _
          have c9 : Below w.heap.size w (w8.setRow w.heap.size (told zs).cells) := HC7.out.trans (HS9.out.to_below HC7.out.size (fun b e => by omega))
          have o9 : Own (w8.setRow w.heap.size (told zs).cells) w.heap.size (.slice A8 32 c8) 32 (zs.drop 60) := (o8.stay (fun g hg => by have hx := o8.block g hg; have hy := HC7.out.size; have hq := (HZ.out : Has w5.drew w.heap.size 52 zeroM.cells).size; exact setRow_other w8 w.heap.size g _ (by omega))).lower (by have := HC7.out.size; exact this)
          have h9 : Has (w8.setRow w.heap.size (told zs).cells) w.heap.size 52 (told zs).cells := setRow_heap _ _ _ _ _ _ HZ8.out
          clear HS7 HS8 HS9 HH HZ HZ8 HD HR7 HC7 t8 o8
          go_wp2
          exact bodyPost_ret (results_row3 (p := 2) (u := 3) (v := 4) rfl _ _ w.heap.size (told zs) rfl h9 (dig_len hl)) rfl ⟨_, by rw [readM_yes HG.out, readE_yes HG.out]; rfl, by rw [readT_yes HG.out, List.length_drop, hl]; exact o9, c9⟩
      exact hbx _ rfl
    · have HG := Lib.hid (show ¬ Good zs from fun g => hmk g.2.1)
      rw [decide_eq_false hmk] at HP
      clear hmk
      go_enter Tryd.func40, Tryd.ntmps40
      go_wp2_with (first
        | (go_at_call 58; (with_reducible refine HP.out.mono ?_); rintro e w1 ⟨rfl, rfl⟩)
        | (refine Sha.wpList_build_to rfl 52 _ rfl _ built27 ?_)
        | (refine wpList_store_row rfl 52 _ _ rfl w.heap.size zeroM.cells rfl rfl 52 _ (h0.more _) (size27 zero_len) rfl (mn_all _) ?_))
      exact bodyPost_ret (results_row3 (p := 2) (u := 3) (v := 4) rfl _ _ w.heap.size zeroM rfl (setRow_heap _ _ _ _ _ _ (h0.more _)) zero_len) rfl (reads_none HG.out (below_setRow bm (Nat.le_refl _) _))
  · have HG := Lib.hid (not_good (zs := zs) (by rw [hr.1]; exact h92))
    have hne : ¬ (n : Int) = 92 := by omega
    clear hr h92
    go_enter Tryd.func40, Tryd.ntmps40
    go_wp2_with (first
      | (refine Sha.wpList_build_to rfl 52 _ rfl _ built27 ?_)
      | (refine wpList_store_row rfl 52 _ _ rfl w.heap.size zeroM.cells rfl rfl 52 _ h0 (size27 zero_len) rfl (mn_all _) ?_))
    exact bodyPost_ret (results_row3 (p := 2) (u := 3) (v := 4) rfl _ _ w.heap.size zeroM rfl (setRow_heap _ _ _ _ _ _ h0) zero_len) rfl (reads_none HG.out (below_setRow ba (Nat.le_refl _) _))
end Go.Proofs.YtcokpdhhpaahgaaDoor.Man
