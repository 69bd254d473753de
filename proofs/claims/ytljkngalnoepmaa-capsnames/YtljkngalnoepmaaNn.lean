/-
  Configs that differ in their names alone, one of them renamed as another; a row of them that grows, and one name in it turned; conditions: as each states.
-/
import Derived.Test.YtljkngalnoepmaaLv
import Derived.Laws.Strings2
namespace Go.Proofs.Ytljkngalnoepmaa
open Go.RowKit
set_option linter.unusedVariables false
set_option linter.unusedSimpArgs false

def abc : ByteArray := ⟨#[97, 98, 99, 100, 101, 102, 103, 104, 105, 106]⟩
def nm (i : Nat) : ByteArray := abc.extract i (i + 1)
set_option maxRecDepth 100000 in
theorem nm_all : (List.range 10).all (fun i => Nam.validL (Nam.all (nm i)) && decide ((nm i).size = 1) && (List.range i).all (fun k => decide (¬ nm i = nm k))) = true := by decide +kernel
theorem nm_is {i : Nat} (h : i < 10) : Nam.validL (Nam.all (nm i)) = true ∧ (nm i).size = 1 ∧ ∀ k, k < i → ¬ nm i = nm k := by
  have := List.all_eq_true.1 nm_all i (List.mem_range.2 h)
  simp only [Bool.and_eq_true, decide_eq_true_eq] at this
  exact ⟨this.1.1, this.1.2, fun k hk => of_decide_eq_true (List.all_eq_true.1 this.2 k (List.mem_range.2 hk))⟩
theorem slice_nm {k : Nat} (hk : k < 10) (w : World) : (Instr.slice 9 (.string ⟨#[97, 98, 99, 100, 101, 102, 103, 104, 105, 106]⟩) (some (.int .i64 (k : Int))) (some (.int .i64 ((k : Int) + 1))) none).run Try.prog w = .ok (.string (nm k)) w := by
  have := run_slice_string (P := Try.prog) w 9 abc .i64 .i64 (k : Int) ((k : Int) + 1) Try.underlying9 (by omega) (by omega) (by show (k : Int) + 1 ≤ ((10 : Nat) : Int); omega)
  rw [show ((k : Int) + 1).toNat = k + 1 by omega, Int.toNat_natCast] at this
  exact this
/-- The i-th one is named f i. -/
def Nms (cs : List Cf) (f : Nat → ByteArray) : Prop := ∀ (i : Nat) (c : Cf), cs[i]? = some c → ∃ g h, c = oneC (f i) g h
theorem nms_nil (f : Nat → ByteArray) : Nms [] f := fun i c h => by simp at h
theorem nms_snoc {cs : List Cf} {f : Nat → ByteArray} {k : Nat} (h : Nms cs f) (hk : cs.length = k) (g q : Nat) : Nms (cs ++ [oneC (f k) g q]) f := by
  intro i c hc
  by_cases e : i < cs.length
  · rw [List.getElem?_append_left e] at hc
    exact h i c hc
  · rw [List.getElem?_append_right (by omega)] at hc
    have h0 : i - cs.length = 0 := by
      have := (List.getElem?_eq_some_iff.1 hc).1
      simp at this
      omega
    rw [h0] at hc
    obtain rfl : i = k := by omega
    simp at hc
    exact ⟨g, q, hc.symm⟩
theorem nms_set {cs : List Cf} {f : Nat → ByteArray} {a : Nat} {c : Cf} (h : Nms cs f) (hc : cs[a]? = some c) (s : ByteArray) : Nms (cs.set a { c with name := s }) (fun i => if i = a then s else f i) := by
  intro i d hd
  by_cases e : i = a
  · subst e
    rw [List.getElem?_set_self (List.getElem?_eq_some_iff.1 hc).1] at hd
    obtain ⟨g, q, rfl⟩ := h i c hc
    simp only [if_pos]
    simp at hd
    exact ⟨g, q, hd.symm⟩
  · rw [List.getElem?_set_ne (fun x => e x.symm)] at hd
    simp only [if_neg e]
    exact h i d hd
theorem nms_right {cs : List Cf} {f : Nat → ByteArray} (h : Nms cs f) (hf : ∀ i, i < cs.length → Nam.validL (Nam.all (f i)) = true) : cs.all rightB = true := by
  rw [List.all_eq_true]
  intro c hc
  obtain ⟨i, hi, e⟩ := List.mem_iff_getElem.1 hc
  have := h i c (by rw [List.getElem?_eq_getElem hi, e])
  obtain ⟨g, q, rfl⟩ := this
  exact oneC_right (hf i hi) g q
theorem nms_ok {cs : List Cf} {f : Nat → ByteArray} (h : Nms cs f) (hf : ∀ i, i < cs.length → (f i).size ≤ 1) : ∀ c ∈ cs, c.Ok := by
  intro c hc
  obtain ⟨i, hi, e⟩ := List.mem_iff_getElem.1 hc
  have := h i c (by rw [List.getElem?_eq_getElem hi, e])
  obtain ⟨g, q, rfl⟩ := this
  exact oneC_ok (by have := hf i hi; unfold maxLen; omega) g q
theorem nms_at {cs : List Cf} {f : Nat → ByteArray} (h : Nms cs f) {i : Nat} (hi : i < cs.length) : ∃ c, cs[i]? = some c ∧ c.name = f i := by
  obtain ⟨g, q, e⟩ := h i _ (List.getElem?_eq_getElem hi)
  exact ⟨_, List.getElem?_eq_getElem hi, by rw [e]; rfl⟩
/-- Which error it is. -/
def wantN (n a b : Nat) : Int := if 8 < n then 1 else if a = b then 0 else 7
theorem want_is {cs : List Cf} {n a b : Nat} (h : Nms cs (fun i => if i = a then nm b else nm i)) (hl : cs.length = n) (hn : 1 ≤ n) (hn' : n ≤ 10) (ha : a < n) (hb : b < n) : errN cs = wantN n a b := by
  unfold wantN
  by_cases h8 : 8 < n
  · rw [if_pos h8]
    exact (err_arg (by rw [hl, win_hi (by omega)]; rfl)).1
  · rw [if_neg h8]
    have hw : winB (cs.length : Int) 1 8 = true := win_yes (by omega) (by omega)
    have hr := nms_right h (fun i hi => by split; exact (nm_is (by omega)).1; exact (nm_is (by omega)).1)
    by_cases e : a = b
    · rw [if_pos e]
      refine (err_none hw hr (share_no ?_)).1
      rintro ⟨i, k, c, d, hk, hi, hd, hn⟩
      have h1 := (List.getElem?_eq_some_iff.1 hi).1
      obtain ⟨g, q, rfl⟩ := h i c hi
      obtain ⟨g', q', rfl⟩ := h k d hd
      subst e
      have e1 : ∀ x, (if x = a then nm a else nm x) = nm x := fun x => by split <;> simp_all
      have hn2 : (if i = a then nm a else nm i) = (if k = a then nm a else nm k) := hn
      rw [e1, e1] at hn2
      exact (nm_is (i := i) (by omega)).2.2 k hk hn2
    · rw [if_neg e]
      refine (err_name hw hr (share_yes ?_)).1
      have e1 : (if a = a then nm b else nm a) = nm b := if_pos rfl
      have e2 : (if b = a then nm b else nm b) = nm b := by split <;> rfl
      obtain ⟨c, hc, hcn⟩ := nms_at h (i := a) (by omega)
      obtain ⟨d, hd, hdn⟩ := nms_at h (i := b) (by omega)
      rw [e1] at hcn
      rw [e2] at hdn
      by_cases hab : a < b
      · exact ⟨b, a, d, c, hab, hd, hc, by rw [hcn, hdn]⟩
      · exact ⟨a, b, c, d, by omega, hc, hd, by rw [hcn, hdn]⟩
theorem flat_set {cs : List Cf} {a : Nat} {c : Cf} (hc : cs[a]? = some c) (s : ByteArray) : (cfs cs).set (a * 7) (.string s) = cfs (cs.set a { c with name := s }) := by
  refine List.ext_getElem? fun j => ?_
  have hlen := cfs_len cs
  have hlen' := cfs_len (cs.set a { c with name := s })
  rw [List.length_set] at hlen'
  have ha := (List.getElem?_eq_some_iff.1 hc).1
  by_cases hj : j < cs.length * 7
  · obtain ⟨i, r, hr, rfl⟩ : ∃ i r, r < 7 ∧ j = i * 7 + r := ⟨j / 7, j % 7, Nat.mod_lt _ (by omega), by omega⟩
    have hi : i < cs.length := by omega
    by_cases e : i = a
    · subst e
      have h2 : (cs.set i { c with name := s })[i]? = some { c with name := s } := List.getElem?_set_self ha
      match r, hr with
      | 0, _ => rw [Nat.add_zero, List.getElem?_set_self (by omega)]; exact (cfs_at (j := 0) h2 rfl).symm
      | 1, _ => rw [List.getElem?_set_ne (by omega), cfs_at (j := 1) hc rfl]; exact (cfs_at (j := 1) h2 rfl).symm
      | 2, _ => rw [List.getElem?_set_ne (by omega), cfs_at (j := 2) hc rfl]; exact (cfs_at (j := 2) h2 rfl).symm
      | 3, _ => rw [List.getElem?_set_ne (by omega), cfs_at (j := 3) hc rfl]; exact (cfs_at (j := 3) h2 rfl).symm
      | 4, _ => rw [List.getElem?_set_ne (by omega), cfs_at (j := 4) hc rfl]; exact (cfs_at (j := 4) h2 rfl).symm
      | 5, _ => rw [List.getElem?_set_ne (by omega), cfs_at (j := 5) hc rfl]; exact (cfs_at (j := 5) h2 rfl).symm
      | 6, _ => rw [List.getElem?_set_ne (by omega), cfs_at (j := 6) hc rfl]; exact (cfs_at (j := 6) h2 rfl).symm
    · have hd : cs[i]? = some cs[i] := List.getElem?_eq_getElem hi
      have h2 : (cs.set a { c with name := s })[i]? = some cs[i] := by rw [List.getElem?_set_ne (fun x => e x.symm)]; exact hd
      obtain ⟨v, hv⟩ : ∃ v, cs[i].list[r]? = some v := ⟨_, List.getElem?_eq_getElem (show r < cs[i].list.length by simpa [Cf.list] using hr)⟩
      rw [List.getElem?_set_ne (by omega), cfs_at hd hv]
      exact (cfs_at h2 hv).symm
  · rw [List.getElem?_eq_none (by rw [List.length_set]; omega), List.getElem?_eq_none (by omega)]
/-- The world in which one more config lies in a row. -/
def laidS (s : ByteArray) (w : World) : World := ((w.alloc (.cells #[.int .u8 107] 5 (1, 2))).alloc (.cells #[.int .u8 120] 5 (1, 2))).alloc (.cells (oneC s w.heap.size (w.heap.size + 1)).cells 38)
theorem laidS_size (s : ByteArray) (w : World) : (laidS s w).heap.size = w.heap.size + 1 + 1 + 1 := by simp [laidS]
theorem laidS_run (s : ByteArray) (w : World) : (laidS s w).rangeAt (w.heap.size + 1 + 1) 0 (cfs [oneC s w.heap.size (w.heap.size + 1)]) := by
  have := has_new ((w.alloc (.cells #[.int .u8 107] 5 (1, 2))).alloc (.cells #[.int .u8 120] 5 (1, 2))) 38 (oneC s w.heap.size (w.heap.size + 1)).cells
  rw [World.size_alloc, World.size_alloc] at this
  have := Has.run (cs := (oneC s w.heap.size (w.heap.size + 1)).list) this
  rw [show cfs [oneC s w.heap.size (w.heap.size + 1)] = (oneC s w.heap.size (w.heap.size + 1)).list from List.append_nil _]
  exact this
theorem laidS_below (s : ByteArray) (w : World) : Below w.heap.size w (laidS s w) := by
  have b1 := (Below.refl w.heap.size w).alloc (Nat.le_refl _) (.cells #[.int .u8 107] 5 (1, 2))
  have b2 := b1.alloc b1.size (.cells #[.int .u8 120] 5 (1, 2))
  exact b2.alloc b2.size _
/-- One more config behind a row of the call's own. -/
theorem app_one {w0 w : World} {v : Value} {k : Nat} {cs : List Cf} (s : ByteArray) (hb : Below w0.heap.size w0 w) (ho : OwnC w w0.heap.size v k cs) (hk : k ≤ 1000) :
    ∃ v' w', (Builtin.append_ #[22, 22] 22 #[v, .slice (some ⟨w.heap.size + 1 + 1, 0, none⟩) 1 1]).run Try.prog (laidS s w) = .ok v' w' ∧ OwnC w' w0.heap.size v' (k + 1) (cs ++ [oneC s w.heap.size (w.heap.size + 1)]) ∧ Below w0.heap.size w0 w' := by
  have hs := (laidS_below s w).size
  have o1 : OwnC (laidS s w) w0.heap.size v k cs := own_kept ho (laidS_below s w)
  obtain ⟨v', w', h1, h2, h3⟩ := runs_appC (laidS s w) w0.heap.size 22 v k cs o1 (w.heap.size + 1 + 1) 0 1 1 [oneC s w.heap.size (w.heap.size + 1)] (laidS_run s w) rfl (by omega) (Nat.le_trans hb.size hs)
  exact ⟨v', w', h1, h2, own_below (hb.trans ((laidS_below s w).mono hb.size)) o1 h3 (Nat.le_refl _) (Nat.le_trans hb.size hs)⟩
end Go.Proofs.Ytljkngalnoepmaa
