/- InPolygon: the model, and the walk of its law. -/
import Derived.Test.YtafbdnjabgfjeaaDoorPolD
import Derived.Test.YtafbdnjabgfjeaaDoorPt
import Derived.Test.YtafbdnjabgfjeaaDoorGz
namespace Go.Proofs.YtafbdnjabgfjeaaDoor
open Go Go.RowKit OriM
namespace Pol
variable {β : Bool}

theorem tab_out (d : Nat → Int) (n : Nat) {w : World} {base : Nat} {v : Value} (h : OwnI w base v (tab d n)) : Sl w w.heap.size v (tab d n) := OwnI.sl h

set_option maxHeartbeats 8000000 in
set_option maxRecDepth 10000 in
theorem sIPo_any (v : Value) (n : Nat) (fs : List Int) (a b c d e f : Int) (w : World) (h : SlF w w.heap.size v n fs) (hT : LT β w) (hl : n ≤ 1048576) :
    Calls Tryd.prog 41 #[v, pt a b c d e f] w (RetB (.int .i64 (inP n fs a b c d e f)) w) := by
  have HP := Lib.hid fun (w' : World) (hb : Below w.heap.size w w') => sPo_any v n fs w' ((h.below hb (Nat.le_refl _)).mono hb.size) (LT.below hT hb (Nat.le_refl _)) hl
  have HO := Lib.hid fun (w' : World) (hb : Below w.heap.size w w') => wide_any v n fs w' ((h.below hb (Nat.le_refl _)).mono hb.size) (LT.below hT hb (Nat.le_refl _)) hl
  have H6 := Lib.hid h.1
  have HV := Lib.hid (fun w (hT : LT β w) => sLP_any a b c d e f w hT)
  have HQ := Lib.hid (fun w (hT : LT β w) => sOf_any a b c d e f w hT)
  obtain ⟨_, A, cp, rfl, hc, _⟩ := h
  go_enter Tryd.func41, Tryd.ntmps41
  go_wp2_with fail
  refine (HP.out _ (by (repeat (first | with_reducible exact Below.refl _ _ | with_reducible assumption | with_reducible refine below_drewN ?_ _ | with_reducible refine Below.drew ?_ | with_reducible refine Below.alloc ?_ (by first | omega | (simp; done) | (simp; omega)) _ | with_reducible refine Below.setCell ?_ (by first | omega | (simp; done) | (simp; omega)) _ | with_reducible refine Below.trans ?_ (Below.mono (by assumption) (by first | omega | (simp; done) | (simp; omega))))))).mono ?_
  rintro e1 w1 ⟨r, rfl, hr, hb1⟩; (try replace hb1 := Below.undrew hb1); obtain ⟨hc1, hf1⟩ := bcell hb1; have hz1 := hb1.size; (try simp at hz1); have z1_0 : w.heap.size < w1.heap.size := (by omega)
  have HR := Lib.hid hr
  clear hr HP
  cases r
  case false =>
    go_wp2_with fail
    go_ret
    refine ⟨?_, by (repeat (first | with_reducible exact Below.refl _ _ | with_reducible assumption | with_reducible refine below_drewN ?_ _ | with_reducible refine Below.drew ?_ | with_reducible refine Below.alloc ?_ (by first | omega | (simp; done) | (simp; omega)) _ | with_reducible refine Below.setCell ?_ (by first | omega | (simp; done) | (simp; omega)) _ | with_reducible refine Below.trans ?_ (Below.mono (by assumption) (by first | omega | (simp; done) | (simp; omega)))))⟩
    rw [inP, if_neg (fun h => by have := HR.out.2 h.1; cases this)]
    rfl
  case true =>
  go_wp2_with fail
  refine (HV.out _ ?_).mono ?_
  · exact LT.below (w := w) hT (by (repeat (first | with_reducible exact Below.refl _ _ | with_reducible assumption | with_reducible refine below_drewN ?_ _ | with_reducible refine Below.drew ?_ | with_reducible refine Below.alloc ?_ (by first | omega | (simp; done) | (simp; omega)) _ | with_reducible refine Below.setCell ?_ (by first | omega | (simp; done) | (simp; omega)) _ | with_reducible refine Below.trans ?_ (Below.mono (by assumption) (by first | omega | (simp; done) | (simp; omega)))))) (Nat.le_refl _)
  rintro e2 w2 ⟨he2, hb2⟩; (try replace hb2 := Below.undrew hb2); obtain ⟨hc2, hf2⟩ := bcell hb2; have hz2 := hb2.size; have z2_0 : w.heap.size < w2.heap.size := (by omega)
  by_cases hv : vP a b c d e f = false
  · rw [hv] at he2
    subst he2
    go_wp2_with fail
    go_ret
    refine ⟨?_, by (repeat (first | with_reducible exact Below.refl _ _ | with_reducible assumption | with_reducible refine below_drewN ?_ _ | with_reducible refine Below.drew ?_ | with_reducible refine Below.alloc ?_ (by first | omega | (simp; done) | (simp; omega)) _ | with_reducible refine Below.setCell ?_ (by first | omega | (simp; done) | (simp; omega)) _ | with_reducible refine Below.trans ?_ (Below.mono (by assumption) (by first | omega | (simp; done) | (simp; omega)))))⟩
    rw [inP, if_neg (fun h => by rw [hv] at h; exact absurd h.2 (by decide))]
    rfl
  replace hv : vP a b c d e f = true := by simpa using hv
  rw [hv] at he2
  subst he2
  have HM := Lib.hid ((mp_iff H6.out).2 (HR.out.1 trivial))
  have HX := Lib.hid hv
  have HI := Lib.hid (show inP n fs a b c d e f = mnS n fs (gP a b c d e f) n by rw [inP, if_pos ⟨HR.out.1 trivial, hv⟩])
  clear hv HV
  go_wp2_with fail
  refine (HO.out _ (by (repeat (first | with_reducible exact Below.refl _ _ | with_reducible assumption | with_reducible refine below_drewN ?_ _ | with_reducible refine Below.drew ?_ | with_reducible refine Below.alloc ?_ (by first | omega | (simp; done) | (simp; omega)) _ | with_reducible refine Below.setCell ?_ (by first | omega | (simp; done) | (simp; omega)) _ | with_reducible refine Below.trans ?_ (Below.mono (by assumption) (by first | omega | (simp; done) | (simp; omega))))))).mono ?_
  rintro e3 w3 ⟨v3, rfl, o3, hb3⟩; (try replace hb3 := Below.undrew hb3); obtain ⟨hc3, hf3⟩ := bcell hb3; have hz3 := hb3.size; have z3_0 : w.heap.size < w3.heap.size := (by omega)
  have hn3 := HM.out.1.1
  have hn16 := HM.out.1.2.1
  have S3 := Lib.hid (ownW_sl o3)
  clear o3 HO
  go_wp2_with fail
  refine (sides_any (β := β) v3 n fs _ S3.out (fun k hk => HM.out.1.2.2 k hk) (by omega) ?_ hl).mono ?_
  · exact LT.below (w := w) hT (by (repeat (first | with_reducible exact Below.refl _ _ | with_reducible assumption | with_reducible refine below_drewN ?_ _ | with_reducible refine Below.drew ?_ | with_reducible refine Below.alloc ?_ (by first | omega | (simp; done) | (simp; omega)) _ | with_reducible refine Below.setCell ?_ (by first | omega | (simp; done) | (simp; omega)) _ | with_reducible refine Below.trans ?_ (Below.mono (by assumption) (by first | omega | (simp; done) | (simp; omega)))))) (Nat.le_refl _)
  rintro e4 w4 ⟨v4, r, rfl, hr, ho, hb4⟩; (try replace hb4 := Below.undrew hb4); obtain ⟨hc4, hf4⟩ := bcell hb4; have hz4 := hb4.size; have z4_0 : w.heap.size < w4.heap.size := (by omega)
  have S4 := Lib.hid (tab_out _ _ (ho (hr.2 HM.out.2.1.1)))
  have S3' := Lib.hid ((S3.out.below hb4 (Nat.le_refl _)).mono hz4)
  clear S3 ho hr
  go_wp2_with fail
  refine (HQ.out _ ?_).mono ?_
  · exact LT.below (w := w) hT (by (repeat (first | with_reducible exact Below.refl _ _ | with_reducible assumption | with_reducible refine below_drewN ?_ _ | with_reducible refine Below.drew ?_ | with_reducible refine Below.alloc ?_ (by first | omega | (simp; done) | (simp; omega)) _ | with_reducible refine Below.setCell ?_ (by first | omega | (simp; done) | (simp; omega)) _ | with_reducible refine Below.trans ?_ (Below.mono (by assumption) (by first | omega | (simp; done) | (simp; omega)))))) (Nat.le_refl _)
  rintro e5 w5 ⟨rfl, hb5⟩; (try replace hb5 := Below.undrew hb5); have hz5 := hb5.size; have z5_0 : w.heap.size < w5.heap.size := (by omega)
  go_wp2_with fail
  refine (mIn_any (β := β) v3 v4 n fs a b c d e f _ ((S3'.out.below hb5 (Nat.le_refl _)).mono hz5) ((S4.out.below hb5 (Nat.le_refl _)).mono hz5) HM.out.1 HM.out.2.1.1 HX.out ?_).mono ?_
  · exact LT.below (w := w) hT (by (repeat (first | with_reducible exact Below.refl _ _ | with_reducible assumption | with_reducible refine below_drewN ?_ _ | with_reducible refine Below.drew ?_ | with_reducible refine Below.alloc ?_ (by first | omega | (simp; done) | (simp; omega)) _ | with_reducible refine Below.setCell ?_ (by first | omega | (simp; done) | (simp; omega)) _ | with_reducible refine Below.trans ?_ (Below.mono (by assumption) (by first | omega | (simp; done) | (simp; omega)))))) (Nat.le_refl _)
  rintro e6 w6 ⟨rfl, hb6⟩; (try replace hb6 := Below.undrew hb6)
  go_wp2_with fail
  go_ret
  exact ⟨by rw [HI.out]; rfl, by (repeat (first | with_reducible exact Below.refl _ _ | with_reducible assumption | with_reducible refine below_drewN ?_ _ | with_reducible refine Below.drew ?_ | with_reducible refine Below.alloc ?_ (by first | omega | (simp; done) | (simp; omega)) _ | with_reducible refine Below.setCell ?_ (by first | omega | (simp; done) | (simp; omega)) _ | with_reducible refine Below.trans ?_ (Below.mono (by assumption) (by first | omega | (simp; done) | (simp; omega)))))⟩
end Pol

theorem slf_in {w W : World} {v : Value} {n : Nat} {fs : List Int} (h : SlF w w.heap.size v n fs) (hb : Below w.heap.size w W) : SlF W W.heap.size v n fs := (h.below hb (Nat.le_refl _)).mono hb.size

set_option maxHeartbeats 8000000 in
theorem exactInPolygon.walk (v : Value) (n : Nat) (fs : List Int) {a b c d e f : Int} (w : World) (hT : LT true w) (hn : (n : Int) ≤ 9223372036854775807) (h64 : Pol.C64 n fs) (h : SlF w w.heap.size v n fs) (hp : I6 a b c d e f) : Calls Tryd.prog 8 #[v, pt a b c d e f] w (RetB (.bool true) w) := by
  have HA := Lib.hid h
  obtain ⟨_, A, cp, rfl, _, _⟩ := h
  by_cases h1 : 1048576 < n
  · have HZ := Lib.hid (fun w => sz_no A n cp 1048576 w (by omega) (by omega) hn (by omega))
    clear h1
    go_enter Tryd.func8, Tryd.ntmps8
    go_wp2_with fail
    refine (HZ.out _).mono ?_
    rintro e w1 ⟨rfl, rfl⟩
    go_wp2_with fail
    go_ret
    exact ⟨rfl, by (repeat (first | with_reducible exact Below.refl _ _ | with_reducible assumption | with_reducible refine below_drewN ?_ _ | with_reducible refine Below.drew ?_ | with_reducible refine Below.alloc ?_ (by first | omega | (simp; done) | (simp; omega)) _ | with_reducible refine Below.setCell ?_ (by first | omega | (simp; done) | (simp; omega)) _ | with_reducible refine Below.trans ?_ (Below.mono (by assumption) (by first | omega | (simp; done) | (simp; omega)))))⟩
  · have HZ := Lib.hid (fun w => sz_ok A n cp 1048576 w (by omega) (by omega) (by omega))
    have hl : n ≤ 1048576 := by omega
    have h1' : (n : Int) ≤ 1048576 := by omega
    have HQ := Lib.hid (fun w (hT : LT true w) => toPt_any a b c d e f w hT)
    have HL := Lib.hid hl
    have HC := Lib.hid h64
    have HI := Lib.hid hp
    clear h1 h64 hp
    go_enter Tryd.func8, Tryd.ntmps8
    go_wp2_with fail
    refine (HZ.out _).mono ?_
    rintro e1 w1 ⟨rfl, rfl⟩
    go_wp2_with fail
    go_region_held3 (fun w' => w'.cell? ⟨w.heap.size, 0, none⟩ = some (.int .i64 a) ∧ w'.cell? ⟨w.heap.size, 1, none⟩ = some (.int .i64 b) ∧ w'.cell? ⟨w.heap.size, 2, none⟩ = some (.int .i64 c) ∧ w'.cell? ⟨w.heap.size, 3, none⟩ = some (.int .i64 d) ∧ w'.cell? ⟨w.heap.size, 4, none⟩ = some (.int .i64 e) ∧ w'.cell? ⟨w.heap.size, 5, none⟩ = some (.int .i64 f)) ((first | (go_simp; done) | (simp [*]; done)))
      ((first
      | (go_at_call 34; refine (toP_any _ n fs _ (slf_in HA.out (by (repeat (first | with_reducible exact Below.refl _ _ | with_reducible assumption | with_reducible refine below_drewN ?_ _ | with_reducible refine Below.drew ?_ | with_reducible refine Below.alloc ?_ (by first | omega | (simp; done) | (simp; omega)) _ | with_reducible refine Below.setCell ?_ (by first | omega | (simp; done) | (simp; omega)) _ | with_reducible refine Below.trans ?_ (Below.mono (by assumption) (by first | omega | (simp; done) | (simp; omega))))))) HL.out).mono ?_; rintro e2 w2 ⟨u, rfl, o2, hb2⟩; (try replace hb2 := Below.undrew hb2); obtain ⟨hc2, hf2⟩ := bcell hb2; have hz2 := hb2.size; (try simp at hz2); have z2a : w.heap.size < w2.heap.size := (by omega); have O2 := Lib.hid o2; clear o2)
      | (go_at_call 42; refine (HQ.out _ ?_).mono ?_; exact LT.below (w := w) hT (by (repeat (first | with_reducible exact Below.refl _ _ | with_reducible assumption | with_reducible refine below_drewN ?_ _ | with_reducible refine Below.drew ?_ | with_reducible refine Below.alloc ?_ (by first | omega | (simp; done) | (simp; omega)) _ | with_reducible refine Below.setCell ?_ (by first | omega | (simp; done) | (simp; omega)) _ | with_reducible refine Below.trans ?_ (Below.mono (by assumption) (by first | omega | (simp; done) | (simp; omega)))))) (Nat.le_refl _); rintro e3 w3 ⟨rfl, hb3⟩; (try replace hb3 := Below.undrew hb3); obtain ⟨hc3, hf3⟩ := bcell hb3; have hz3 := hb3.size; (try simp at hz3); have z3a : w.heap.size < w3.heap.size := (by omega); have O3 := Lib.hid ((OwnF.sl O2.out).below hb3 (Nat.le_refl _)))
      | (go_at_call 41; refine (Pol.sIPo_any (β := true) _ n fs a b c d e f _ (O3.out.mono ?_) ?_ HL.out).mono ?_; (first | exact hz3 | (simp; omega)); exact LT.below (w := w) hT (by (repeat (first | with_reducible exact Below.refl _ _ | with_reducible assumption | with_reducible refine below_drewN ?_ _ | with_reducible refine Below.drew ?_ | with_reducible refine Below.alloc ?_ (by first | omega | (simp; done) | (simp; omega)) _ | with_reducible refine Below.setCell ?_ (by first | omega | (simp; done) | (simp; omega)) _ | with_reducible refine Below.trans ?_ (Below.mono (by assumption) (by first | omega | (simp; done) | (simp; omega)))))) (Nat.le_refl _); rintro e4 w4 ⟨rfl, hb4⟩; (try replace hb4 := Below.undrew hb4); obtain ⟨hc4, hf4⟩ := bcell hb4; have hz4 := hb4.size; (try simp at hz4); have z4a : w.heap.size < w4.heap.size := (by omega))))
    all_goals
      have B4 : Below w.heap.size w w4 := by (repeat (first | with_reducible exact Below.refl _ _ | with_reducible assumption | with_reducible refine below_drewN ?_ _ | with_reducible refine Below.drew ?_ | with_reducible refine Below.alloc ?_ (by first | omega | (simp; done) | (simp; omega)) _ | with_reducible refine Below.setCell ?_ (by first | omega | (simp; done) | (simp; omega)) _ | with_reducible refine Below.trans ?_ (Below.mono (by assumption) (by first | omega | (simp; done) | (simp; omega)))))
      go_wp2_with fail
      refine (toP_any _ n fs _ (slf_in HA.out B4) HL.out).mono ?_
      rintro e5 w5 ⟨u5, rfl, o5, hb5⟩
      obtain ⟨hc5, hf5⟩ := bcell hb5
      have B5 := B4.trans (hb5.mono B4.size)
      have O5 := Lib.hid o5
      clear o5
      go_wp2_with fail
      refine (HQ.out _ (LT.below hT B5 (Nat.le_refl _))).mono ?_
      rintro e6 w6 ⟨rfl, hb6⟩
      have B6 := B5.trans (hb6.mono B5.size)
      have O6 := Lib.hid (own_below O5.out hb6 (Nat.le_refl _))
      clear O5
      go_wp2_with fail
      refine (Pol.iIPo_any _ n fs a b c d e f _ (OwnF.sl O6.out) HC.out HI.out (LT.below hT B6 (Nat.le_refl _)) HL.out).mono ?_
      rintro e7 w7 ⟨rfl, hb7⟩
      have B7 := B6.trans (hb7.mono B6.size)
      have O7 := Lib.hid (own_below O6.out hb7 (Nat.le_refl _))
      clear O6
      go_wp2_with fail
      refine (toP_any _ n fs _ (slf_in HA.out B7) HL.out).mono ?_
      rintro e8 w8 ⟨u8, rfl, o8, hb8⟩
      have B8 := B7.trans (hb8.mono B7.size)
      have O8 := Lib.hid (own_below O7.out hb8 (Nat.le_refl _))
      have P8 := Lib.hid o8
      clear O7 o8
      go_wp2_with fail
      refine (eqP_same _ _ n fs _ (OwnF.sl O8.out) (OwnF.sl P8.out) HL.out).mono ?_
      rintro e9 w9 ⟨rfl, b9⟩
      go_wp2_with fail
      go_ret
      exact ⟨rfl, B8.trans (b9.mono B8.size)⟩
end Go.Proofs.YtafbdnjabgfjeaaDoor
