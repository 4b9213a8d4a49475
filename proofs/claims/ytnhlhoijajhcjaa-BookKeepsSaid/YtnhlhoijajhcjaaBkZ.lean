/- What deeds keep: mathematics of BookKeeps. -/
import Derived.Test.YtnhlhoijajhcjaaBkY
set_option linter.unusedVariables false
set_option linter.unusedSimpArgs false
namespace Go.Proofs.Ytnhlhoijajhcjaa
open Go.RowKit
namespace Bk
open Sq
/-- B follows from a book by deeds that keep what was closed -/
structure Kp (acc : Int) (l : List Po) (cl : Int) (B : Bo) : Prop where
  hacc : B.acc = acc
  hvd : Vd B.acc B.l B.cl
  hcl : cl ≤ B.cl
  hpre : l <+: B.l
  hsame : ∀ (m : Int) (t : Nat), m < cl → sT B.l m t = sT l m t
theorem post_cases {acc cl : Int} {l : List Po} {p : Po} {B : Bo} (e : postB acc l cl p = some B) : PostP acc l cl p ∧ B = ⟨acc, l ++ [p], cl⟩ := by
  unfold postB post at e
  split at e
  · rename_i h
    cases e
    exact ⟨h, rfl⟩
  · cases e
theorem kp_post {acc cl : Int} {l : List Po} {p : Po} {B : Bo} (e : postB acc l cl p = some B) : Kp acc l cl B ∧ B.l.length = l.length + 1 := by
  obtain ⟨⟨_, h2, h3⟩, rfl⟩ := post_cases e
  refine ⟨⟨rfl, h2, Int.le_refl _, List.prefix_append _ _, fun m t hm => ?_⟩, len_snoc l p⟩
  have hf := (last_ok h2).1.2.1
  show sT (l ++ [p]) m t = _
  rw [sT_snoc, if_neg]
  · omega
  · rw [Int.tdiv_eq_ediv_of_nonneg hf.1]
    omega
theorem Kp.trans {acc cl acc' cl' : Int} {l l' : List Po} {C : Bo} (h : Kp acc l cl ⟨acc', l', cl'⟩) (k : Kp acc' l' cl' C) : Kp acc l cl C := by
  have h1 : acc' = acc := h.hacc
  have h2 : cl ≤ cl' := h.hcl
  exact ⟨k.hacc.trans h1, k.hvd, Int.le_trans h2 k.hcl, h.hpre.trans k.hpre, fun m t hm => (k.hsame m t (by omega)).trans (h.hsame m t hm)⟩
theorem kp_disp {acc cl i day n : Int} {l : List Po} {B : Bo} (e : dispB acc l cl i day n = some B) : Kp acc l cl B ∧ l.length + 1 ≤ B.l.length ∧ B.l.length ≤ l.length + 2 := by
  by_cases hc : 0 ≤ i ∧ i < l.length ∧ 0 ≤ n ∧ n ≤ 1000000000
  · rw [dispB_ok hc] at e
    cases hp : postB acc l cl (back (at' l i.toNat) i day) with
    | none => rw [hp] at e; cases e
    | some C =>
      rw [hp] at e
      dsimp only at e
      obtain ⟨k1, k2⟩ := kp_post hp
      by_cases h0 : n = 0
      · rw [if_pos h0] at e
        cases e
        exact ⟨k1, by omega, by omega⟩
      · rw [if_neg h0] at e
        obtain ⟨a, m, c⟩ := C
        obtain ⟨k3, k4⟩ := kp_post e
        dsimp only at k2 k4
        exact ⟨k1.trans k3, by omega, by omega⟩
  · rw [dispB_bad hc] at e
    cases e
theorem kp_close {acc cl m : Int} {l : List Po} {B : Bo} (e : closeB acc l cl m = some B) : Kp acc l cl B ∧ B.l.length = l.length := by
  unfold closeB at e
  split at e
  · rename_i hp
    cases e
    obtain ⟨h1, rfl, h3, h4⟩ := hp
    obtain ⟨⟨q1, q2, q3, q4, q5⟩, q6⟩ := h1
    exact ⟨⟨rfl, ⟨⟨q1, q2, by show 0 ≤ m + 1; omega, by show m + 1 ≤ 12; omega, q5⟩, q6⟩, by show m ≤ m + 1; omega, List.prefix_rfl, fun _ _ _ => rfl⟩, rfl⟩
  · cases e
/-- stores into the block b leave the postings as they are -/
def Cl (b : Nat) (o : Option Addr) (N c : Nat) (l : List Po) : Prop := ∀ (W : World) (i : Nat) (v : Value), BkW W o N c l → BkW (W.setCell ⟨b, i, none⟩ v) o N c l
theorem cl_fr {B0 b : Nat} {o : Option Addr} {N c : Nat} {l : List Po} (hf : Fr B0 o) (hb : b < B0) : Cl b o N c l := fun _ _ v h => h.set hf hb v
theorem cl_old {w0 : World} {b : Nat} {o : Option Addr} {N c : Nat} {l : List Po} (h0 : BkW w0 o N c l) (hb : w0.heap.size ≤ b) : Cl b o N c l := fun _ _ v h => h.apart h0 hb v
theorem take_pre {l m : List Po} (h : l <+: m) : m.take l.length = l := (List.prefix_iff_eq_take.1 h).symm
theorem sl_take {w : World} {o : Option Addr} {N c : Nat} {l m : List Po} (h : BkW w o N c m) (hp : l <+: m) : Sl poE w o l := by
  have := h.2.2.2.2.take l.length
  rw [take_pre hp] at this
  exact this
theorem fv_far {w : World} {bl off n b i : Nat} {L : List F5} (h : Fv w (some ⟨bl, off, none⟩) n L) (hne : b ≠ bl) (v : Value) : Fv (w.setCell ⟨b, i, none⟩ v) (some ⟨bl, off, none⟩) n L := by
  refine ⟨h.1, h.2.1, h.2.2.1, ?_⟩
  rcases h.2.2.2 with e | ⟨b', off', e, hl, hc⟩
  · exact .inl e
  · cases e
    exact .inr ⟨bl, off, rfl, by simpa using hl, fun j x hx i' u hu => (World.cell?_setCell_far _ _ _ _ (show b ≠ bl from hne)).trans (hc j x hx i' u hu)⟩
theorem fv_far3 {w : World} {bl off n b : Nat} {L : List F5} (h : Fv w (some ⟨bl, off, none⟩) n L) (hne : b ≠ bl) (x0 x1 x2 : Value) : Fv (((w.setCell ⟨b, 0, none⟩ x0).setCell ⟨b, 1, none⟩ x1).setCell ⟨b, 2, none⟩ x2) (some ⟨bl, off, none⟩) n L := fv_far (fv_far (fv_far h hne x0) hne x1) hne x2
end Bk
end Go.Proofs.Ytnhlhoijajhcjaa
