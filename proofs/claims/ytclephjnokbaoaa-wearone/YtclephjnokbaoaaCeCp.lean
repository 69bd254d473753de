/-
  Plain mathematics: a cell's bytes, and which cell bytes are; conditions: none.
-/
import Derived.Test.YtclephjnokbaoaaCeDuPlain
namespace Go.Proofs.Ytclephjnokbaoaa

/-- What a seq may be. -/
def Seq (n : Int) : Prop := 1 ≤ n ∧ n ≤ 2147483647
/-- A cell's bytes, without their opposites. -/
def bareL (n : Int) (zs : List Int) : List Int := numL n 4 ++ rawL zs 156
/-- A cell's bytes. -/
def cellL (n : Int) (zs : List Int) : List Int := putL (bareL n zs)
theorem bare_len (n : Int) (zs : List Int) : (bareL n zs).length = 160 := by rw [bareL, List.length_append, num_len, raw_len]
theorem bare_byt (n : Int) {zs : List Int} (h : Byt zs) : Byt (bareL n zs) := byt_app (num_byt _ _) (raw_byt h _)
theorem cell_len (n : Int) (zs : List Int) : (cellL n zs).length = 320 := by rw [cellL, ce_put_len, bare_len]
theorem cell_byt (n : Int) {zs : List Int} (h : Byt zs) : Byt (cellL n zs) := ce_put_byt (bare_byt n h)
/-- The error of a Put. -/
noncomputable def errN (n : Int) (len : Nat) : Int := open Classical in if ¬ Seq n then 1 else if 156 < len then 10 else 0
/-- The bytes of a Put. -/
noncomputable def outL (n : Int) (zs : List Int) (len : Nat) : List Int := open Classical in if Seq n ∧ len ≤ 156 then cellL n zs else []
theorem err_arg {n : Int} {len : Nat} (h : ¬ Seq n) : errN n len = 1 := by unfold errN; rw [if_pos h]
theorem err_long {n : Int} {len : Nat} (h : Seq n) (h' : 156 < len) : errN n len = 10 := by unfold errN; rw [if_neg (fun k => k h), if_pos h']
theorem err_none {n : Int} {len : Nat} (h : Seq n) (h' : len ≤ 156) : errN n len = 0 := by unfold errN; rw [if_neg (fun k => k h), if_neg (by omega)]
theorem out_arg {n : Int} {zs : List Int} {len : Nat} (h : ¬ Seq n) : outL n zs len = [] := by unfold outL; rw [if_neg (fun k => h k.1)]
theorem out_long {n : Int} {zs : List Int} {len : Nat} (h' : 156 < len) : outL n zs len = [] := by unfold outL; rw [if_neg (fun k => by omega)]
theorem out_some {n : Int} {zs : List Int} {len : Nat} (h : Seq n) (h' : len ≤ 156) : outL n zs len = cellL n zs := by unfold outL; rw [if_pos ⟨h, h'⟩]
theorem out_byt (n : Int) {zs : List Int} (h : Byt zs) (len : Nat) : Byt (outL n zs len) := by
  unfold outL
  split
  · exact cell_byt n h
  · exact byt_nil
theorem err_zero {n : Int} {len : Nat} (h : errN n len = 0) : Seq n ∧ len ≤ 156 := by
  unfold errN at h
  split at h
  · omega
  · rename_i h1
    split at h
    · omega
    · exact ⟨Classical.not_not.1 h1, by omega⟩
/-- The bytes behind their opposites. -/
def seqN (zs : List Int) : Int := val ((evL zs 160).take 4)
def loadL (zs : List Int) : List Int := (evL zs 160).drop 4
/-- Which bytes are a cell. -/
def Good (zs : List Int) : Prop := zs.length = 320 ∧ Whole zs ∧ Seq (seqN zs)
def Cell (zs : List Int) (n : Int) (rs : List Int) (b : Bool) : Prop := (Good zs ∧ n = seqN zs ∧ rs = loadL zs ∧ b = true) ∨ (¬ Good zs ∧ n = 0 ∧ rs = [] ∧ b = false)
theorem Cell.same {zs : List Int} {n n' : Int} {rs rs' : List Int} {b b' : Bool} (h : Cell zs n rs b) (h' : Cell zs n' rs' b') : n = n' ∧ rs = rs' ∧ b = b' := by
  rcases h with ⟨h1, h2, h3, h4⟩ | ⟨h1, h2, h3, h4⟩ <;> rcases h' with ⟨k1, k2, k3, k4⟩ | ⟨k1, k2, k3, k4⟩
  · exact ⟨h2.trans k2.symm, h3.trans k3.symm, h4.trans k4.symm⟩
  · exact absurd h1 k1
  · exact absurd k1 h1
  · exact ⟨h2.trans k2.symm, h3.trans k3.symm, h4.trans k4.symm⟩
theorem Cell.none {zs : List Int} {n : Int} {rs : List Int} {b : Bool} (h : Cell zs n rs b) (hn : ¬ Good zs) : n = 0 ∧ rs = [] ∧ b = false := by
  rcases h with ⟨h1, _⟩ | ⟨_, h⟩
  · exact absurd h1 hn
  · exact h
theorem Cell.some {zs : List Int} {n : Int} {rs : List Int} {b : Bool} (h : Cell zs n rs b) (hn : Good zs) : n = seqN zs ∧ rs = loadL zs ∧ b = true := by
  rcases h with ⟨_, h⟩ | ⟨h1, _⟩
  · exact h
  · exact absurd hn h1
theorem Cell.byt {zs : List Int} {n : Int} {rs : List Int} {b : Bool} (h : Cell zs n rs b) (hz : Byt zs) : Byt rs := by
  rcases h with ⟨_, _, h, _⟩ | ⟨_, _, h, _⟩
  · rw [h]; exact byt_drop (ev_byt hz _) _
  · rw [h]; exact byt_nil
theorem ev_cell (n : Int) (zs : List Int) : evL (cellL n zs) 160 = bareL n zs := by
  have h := ev_put (bareL n zs)
  rw [show (putL (bareL n zs)).length / 2 = 160 by rw [ce_put_len, bare_len]] at h
  exact h
theorem seq_cell {n : Int} (h : Seq n) (zs : List Int) : seqN (cellL n zs) = n := by
  unfold seqN
  rw [ev_cell, bareL, List.take_append_of_le_length (by rw [num_len]; omega), List.take_of_length_le (by rw [num_len]; omega)]
  refine val_fit ⟨by have := h.1; omega, ?_⟩
  rw [show (256 : Int) ^ 4 = 4294967296 from rfl]
  have := h.2
  omega
theorem load_cell (n : Int) (zs : List Int) : loadL (cellL n zs) = rawL zs 156 := by
  unfold loadL
  rw [ev_cell, bareL, List.drop_append_of_le_length (by rw [num_len]; omega), List.drop_of_length_le (by rw [num_len]; omega), List.nil_append]
theorem good_cell {n : Int} (h : Seq n) (zs : List Int) : Good (cellL n zs) := ⟨cell_len _ _, put_whole _, by rw [seq_cell h]; exact h⟩
theorem cell_back {m : Int} {ys : List Int} (hm : Seq m) {n : Int} {rs : List Int} {b : Bool} (h : Cell (cellL m ys) n rs b) : n = m ∧ rs = rawL ys 156 ∧ b = true := by
  have := h.some (good_cell hm ys)
  rw [seq_cell hm, load_cell] at this
  exact this
theorem cell_nil {n : Int} {rs : List Int} {b : Bool} (h : Cell [] n rs b) : n = 0 ∧ rs = [] ∧ b = false := h.none fun g => by have := g.1; simp at this
theorem raw_head {zs : List Int} {k : Nat} (h : zs.length ≤ k) : (rawL zs k).take zs.length = zs := by
  unfold rawL
  rw [List.take_of_length_le h, List.take_left]
theorem seq_val {zs : List Int} (h : Byt zs) (hl : zs.length = 160) : 0 ≤ val (zs.take 4) ∧ val (zs.take 4) < 4294967296 := by
  have := val_pos (byt_take h 4)
  rw [List.length_take, show min 4 zs.length = 4 by omega, show (256 : Int) ^ 4 = 4294967296 from rfl] at this
  exact this
theorem cut4 : cutN 4 8 = 4 := by decide
theorem cut156 : cutN 156 1000 = 156 := by decide
/-- What is read of bytes behind their opposites: the seq, and what goes with it. -/
theorem got_seq {zs : List Int} (h : Byt zs) (hl : zs.length = 160) : w64 (val (got ⟨zs, false⟩ (cutN 4 8))) = val (zs.take 4) := by
  rw [cut4, got_yes rfl (by simp only []; omega)]
  have := seq_val h hl
  exact w64_in (by simp only []; omega)
theorem aft_seq {zs : List Int} (hl : zs.length = 160) : aft ⟨zs, false⟩ (cutN 4 8) = ⟨zs.drop 4, false⟩ := by
  rw [cut4, aft_yes rfl (by simp only []; omega)]
theorem got_load {zs : List Int} (hl : zs.length = 160) : got ⟨zs.drop 4, false⟩ (cutN 156 1000) = zs.drop 4 := by
  rw [cut156, got_yes rfl (by simp only [List.length_drop]; omega), List.take_of_length_le (by simp only [List.length_drop]; omega)]
end Go.Proofs.Ytclephjnokbaoaa
