/- What lies in the library's and the program's tables; points and lines as values. -/
import Derived.Test.YtafbdnjabgfjeaaDoorGa
import Derived.WalkSmall
namespace Go.Proofs.YtafbdnjabgfjeaaDoor
open Go Go.RowKit OriM

/-- The table of the vectors of the eight directions: x and y, three parts each. -/
def lvCell (n : Nat) : Int :=
  if n % 6 = 0 then xA (n / 6) else if n % 6 = 1 then xB (n / 6) else if n % 6 = 3 then yA (n / 6) else if n % 6 = 4 then yB (n / 6) else 0
def LvTab (w : World) : Prop := 0 < w.heap.size ∧ ∀ n, n < 48 → w.cell? ⟨0, n, none⟩ = some (.int .i64 (lvCell n))
/-- The tables lie: the library's, and where β says so the program's. -/
structure LT (β : Bool) (w : World) : Prop where
  tz : TzTab w
  lv : β = true → LvTab w
theorem LT.below {β : Bool} {B : Nat} {w w' : World} (h : LT β w) (hb : Below B w w') (hB : w.heap.size ≤ B) : LT β w' :=
  ⟨h.tz.below hb hB, fun e => ⟨by have := hb.size; have := (h.lv e).1; omega, fun n hn => by rw [hb.cell (p := ⟨0, n, none⟩) (Nat.lt_of_lt_of_le (h.lv e).1 hB)]; exact (h.lv e).2 n hn⟩⟩
theorem Ret.toB {v : Value} {w : World} {e : Ending} {w' : World} (h : Ret v w e w') : RetB v w e w' := ⟨h.1, by rw [← h.2]; exact Below.refl _ _⟩

/-- Points and lines on the grid, as values. -/
noncomputable def gp (p : P4) : Value := .agg #[.int .i64 (gA p.a p.b), .int .i64 (gB p.a p.b), .int .i64 (gK p.a p.b), .int .i64 (gA p.c p.d), .int .i64 (gB p.c p.d), .int .i64 (gK p.c p.d)]
noncomputable def gl (d A B : Int) : Value := .agg #[.int .i64 d, .int .i64 (gA A B), .int .i64 (gB A B), .int .i64 (gK A B)]
/-- Vectors of small integers. -/
abbrev sv (a b c d : Int) : Value := .agg #[.int .i64 a, .int .i64 b, .int .i64 0, .int .i64 c, .int .i64 d, .int .i64 0]

theorem gA_int (c d : Int) : gA (c * 65536) (d * 65536) = c ∧ gB (c * 65536) (d * 65536) = d ∧ gK (c * 65536) (d * 65536) = 0 := by
  have h : Gr c d 0 (c * 65536) (d * 65536) := ⟨by simp, by simp⟩
  obtain ⟨h1, h2, h3⟩ := gr_of_canon h (.inl rfl)
  exact ⟨h1.symm, h2.symm, h3.symm⟩
theorem gv_int (c d : Int) : gv (c * 65536) (d * 65536) = num c d 0 := by
  obtain ⟨h1, h2, h3⟩ := gA_int c d
  unfold gv; rw [h1, h2, h3]; rfl

theorem glow_any {P R M A B : Int} (M0 : 0 ≤ M) (M1 : M ≤ 62) (g : Gr P R M.toNat A B) (w : World) (hT : TzTab w) :
    Calls Tryd.prog 154 #[num P R M] w (RetB (gv A B) w) := by
  have h := lowest_any P R M w M0 M1 hT
  obtain ⟨e1, e2, e3⟩ := gr_low g
  rw [e1, e2, e3] at h
  exact h
end Go.Proofs.YtafbdnjabgfjeaaDoor
