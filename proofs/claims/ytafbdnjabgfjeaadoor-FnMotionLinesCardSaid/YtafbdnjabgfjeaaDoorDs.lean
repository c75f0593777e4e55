/- What FnMotionLines calls, in one bundle: moved lines, sides and directions. -/
import Derived.Test.YtafbdnjabgfjeaaDoorAct
import Derived.Test.YtafbdnjabgfjeaaDoorOl
import Derived.Test.YtafbdnjabgfjeaaDoorGZ
import Derived.Test.YtafbdnjabgfjeaaDoorGDZ
namespace Go.Proofs.YtafbdnjabgfjeaaDoor
namespace Act
open Go Go.RowKit OriM Com
variable {β : Bool}

theorem dot_foot {n : Nat} (hn : n < 8) {A B T1 T2 : Int} (q : OriM.Quot (sqA (n + 4)) (sqB (n + 4)) 1 (sqT (n + 4)) A B T1 T2) : dotA (n + 4) (mulP (n + 4) T1 T2) = A ∧ dotB (n + 4) (mulP (n + 4) T1 T2) = B := by
  rcases lt8 hn with rfl | rfl | rfl | rfl | rfl | rfl | rfl | rfl
  all_goals
    obtain ⟨q1, q2⟩ := q
    first
    | (have e1 : sqA 4 = 1 := by decide
       have e2 : sqB 4 = 0 := by decide
       have e3 : sqT 4 = 0 := by decide
       simp only [Nat.reduceAdd, e1, e2, e3] at q1 q2
       simp at q1 q2
       simp [dotA, dotB, mulP, mA, mB, xA, xB, yA, yB]; omega)
    | (have e1 : sqA 5 = 4 := by decide
       have e2 : sqB 5 = -2 := by decide
       have e3 : sqT 5 = 3 := by decide
       simp only [Nat.reduceAdd, e1, e2, e3] at q1 q2
       simp at q1 q2
       simp [dotA, dotB, mulP, mA, mB, xA, xB, yA, yB]; omega)
    | (have e1 : sqA 6 = 2 := by decide
       have e2 : sqB 6 = 0 := by decide
       have e3 : sqT 6 = 2 := by decide
       simp only [Nat.reduceAdd, e1, e2, e3] at q1 q2
       simp at q1 q2
       simp [dotA, dotB, mulP, mA, mB, xA, xB, yA, yB]; omega)
    | (have e1 : sqA 7 = 4 := by decide
       have e2 : sqB 7 = -2 := by decide
       have e3 : sqT 7 = 3 := by decide
       simp only [Nat.reduceAdd, e1, e2, e3] at q1 q2
       simp at q1 q2
       simp [dotA, dotB, mulP, mA, mB, xA, xB, yA, yB]; omega)
    | (have e1 : sqA 8 = 1 := by decide
       have e2 : sqB 8 = 0 := by decide
       have e3 : sqT 8 = 0 := by decide
       simp only [Nat.reduceAdd, e1, e2, e3] at q1 q2
       simp at q1 q2
       simp [dotA, dotB, mulP, mA, mB, xA, xB, yA, yB]; omega)
    | (have e1 : sqA 9 = 4 := by decide
       have e2 : sqB 9 = -2 := by decide
       have e3 : sqT 9 = 3 := by decide
       simp only [Nat.reduceAdd, e1, e2, e3] at q1 q2
       simp at q1 q2
       simp [dotA, dotB, mulP, mA, mB, xA, xB, yA, yB]; omega)
    | (have e1 : sqA 10 = 2 := by decide
       have e2 : sqB 10 = 0 := by decide
       have e3 : sqT 10 = 2 := by decide
       simp only [Nat.reduceAdd, e1, e2, e3] at q1 q2
       simp at q1 q2
       simp [dotA, dotB, mulP, mA, mB, xA, xB, yA, yB]; omega)
    | (have e1 : sqA 11 = 4 := by decide
       have e2 : sqB 11 = -2 := by decide
       have e3 : sqT 11 = 3 := by decide
       simp only [Nat.reduceAdd, e1, e2, e3] at q1 q2
       simp at q1 q2
       simp [dotA, dotB, mulP, mA, mB, xA, xB, yA, yB]; omega)
theorem m4_foot {n : Nat} (hn : n < 8) {T1 T2 : Int} (h1 : T1 % 8 = 0) (h2 : T2 % 8 = 0) : M4 (mulP (n + 4) T1 T2) := by
  obtain ⟨u, rfl⟩ : ∃ u, T1 = 8 * u := ⟨T1 / 8, by omega⟩
  obtain ⟨v, rfl⟩ : ∃ u, T2 = 8 * u := ⟨T2 / 8, by omega⟩
  unfold M4
  rcases lt8 hn with rfl | rfl | rfl | rfl | rfl | rfl | rfl | rfl <;> simp [mulP, mA, mB, xA, xB, yA, yB] <;> omega

/-- The moved foot of a line. -/
def mf (i n : Nat) (f : Bool) (s : P4) (T1 T2 : Int) : P4 := mP i (upI i f) s (mulP (n + 4) T1 T2)
theorem mvl_val {i n : Nat} (hi : i < 8) (hn : n < 8) (f : Bool) {s : P4} (os : pOk s = true) {x y z T1 T2 : Int} (hx : validB x y z = true) (hq : OriM.Quot (sqA (n + 4)) (sqB (n + 4)) 1 (sqT (n + 4)) (up16 x z.toNat) (up16 y z.toNat) T1 T2)
    (h1 : T1 % 8 = 0) (_h2 : T2 % 8 = 0) :
    (∀ w, LT true w → Calls Tryd.prog 18 #[motG i f s, lnv n x y z] w (RetB (lineV (vN i f n % 8 : Nat) (dotA (vN i f n % 8 + 4) (mf i n f s T1 T2)) (dotB (vN i f n % 8 + 4) (mf i n f s T1 T2))) w)) ∧
    (∀ w, LT true w → Calls Tryd.prog 16 #[motG i f s, lnv n x y z] w (RetB (lineV (vN i f n % 8 : Nat) (dotA (vN i f n % 8 + 4) (mf i n f s T1 T2)) (dotB (vN i f n % 8 + 4) (mf i n f s T1 T2))) w)) := by
  have HL : vL n x y z = true := by unfold vL; rw [hx, Bool.and_true]; simp [inB]; omega
  have hM := ok_vM hi os
  obtain ⟨hA, mA1, mA2⟩ := valid_bd hx
  obtain ⟨hs, _⟩ := ok_bd os
  have bT := MoveL.sq_bd (d := n + 4) (by omega) hA hq
  have bF := MoveL.mulP_bd (d := n + 4) (by omega) bT
  have he := MoveL.mulP_ev (n + 4) (A := T1) (B := T2) (by omega)
  obtain ⟨bx, bY⟩ := bd_half bF
  have bR : Bd 70368744177664 (mP i (upI i f) s (mulP (n + 4) T1 T2)) := bd_mono (add_bd (add_bd (uP_bd hi bx) (uP_bd (upI_lt i f) bY)) hs) (by decide)
  have SF := fun w (hT : LT true w) => MoveL.sfoot_g hn hA hq w hT
  have IF := fun w (hT : LT true w) => MoveL.ifoot_g hn hA hq w hT
  have SM := fun w (hT : LT true w) => smove_g hi f hs (bd_mono bF (by decide)) he w hT
  have IM := fun w (hT : LT true w) => matrix_g hi f s w hT
  have PL := fun w (hT : LT true w) => place_g hi (upI_lt i f) hs (bd_mono bF (by decide)) he w hT
  have DL := fun w (hT : LT true w) => dlineOf_g n (up16 x z.toNat) (up16 y z.toNat) w hT
  have D1 := fun w (hT : LT true w) => dir_any (t := (i : Int)) f (gA s.a s.b) (gB s.a s.b) (gK s.a s.b) (gA s.c s.d) (gB s.c s.d) (gK s.c s.d) (e := (n : Int)) (by omega) (by omega) (by omega) (by omega) w hT
  have D2 := fun w (hT : LT true w) => sdir_any (t := (i : Int)) f (gA s.a s.b) (gB s.a s.b) (gK s.a s.b) (gA s.c s.d) (gB s.c s.d) (gK s.c s.d) (e := (n : Int)) (by omega) (by omega) (by omega) (by omega) w hT
  obtain ⟨v0, v1⟩ := MoveL.dirV_in i f n
  have hvN := vN_dir i f (show n < 16 by omega)
  unfold mf
  generalize hgg : vN i f n % 8 = g
  have g8 : g < 8 := by omega
  generalize dirV i f n = v at *
  have hg : v % 8 = (g : Int) := by omega
  have AT := fun w (hT : LT true w) => dlineAt_g (d := g) (by omega) bR w hT
  rw [Nat.mod_eq_of_lt (show g < 16 by omega), Nat.mod_eq_of_lt (show g + 4 < 16 by omega), ← hg] at AT
  have TH := fun w (hT : LT true w) => MoveL.sthrough_g v0 v1 hg bR w hT
  rw [← hg] at TH
  have bD := dot_bd (d := g + 4) (by omega) bR
  have LI := fun w (hT : LT true w) => line_g (d := v % 8) (bd2_mono bD (by decide)) w hT
  have NU := fun w => sNum1_g (bd2_mono bD (show (4 * 70368744177664 : Int) ≤ 1152921504606846976 by decide)) w
  generalize mP i (upI i f) s (mulP (n + 4) T1 T2) = R at *
  generalize dotA (g + 4) R = U at *
  generalize dotB (g + 4) R = V at *
  rw [← valid_gl hx] at SF IF DL
  have S4 := fun w (hT : LT true w) => s04Line_core _ _ _ _ _ _ _ _ _ _ _ _ _ _ _ _ _ _ _ _ _ _ _ _ _ _ _ _ _ w hT (Lib.hid SF) (Lib.hid SM) (Lib.hid D2) (Lib.hid TH)
  rw [← hg]
  unfold lineV at LI ⊢
  unfold limV at NU
  have hl3 : I3 x y z := i3_valid hx
  have HM := Lib.hid fun w (hT : LT true w) => hM ▸ iVM_any i f (ok_i6 os) w hT
  have HS := Lib.hid fun w (hT : LT true w) => hM ▸ sMK_any i f (gA s.a s.b) (gB s.a s.b) (gK s.a s.b) (gA s.c s.d) (gB s.c s.d) (gK s.c s.d) w hT
  by_cases ho : gOk U V = true
  · rw [ho, if_pos rfl] at LI NU ⊢
    exact ⟨fun w hT => sMvL_ok _ _ _ _ _ _ _ _ _ _ _ _ _ _ _ _ _ _ _ w hT HS (Lib.hid fun w hT => HL ▸ sLL_any _ x y z w hT) (Lib.hid fun w hT => sMOf_any _ _ _ _ _ _ _ _ w hT) (Lib.hid fun w hT => sLineOf_any _ _ _ _ w hT) (Lib.hid S4) (Lib.hid fun w _ => NU w),
      fun w hT => iMvL_ok _ _ _ _ _ _ _ _ _ _ _ _ _ _ _ _ _ _ _ _ _ _ _ _ _ _ _ _ _ _ _ _ _ _ _ _ _ _ _ _ _ _ _ _ _ _ _ _ _ _ _ _ w hT v0 HM (Lib.hid fun w hT => HL ▸ iVL_any hl3 w hT) (Lib.hid IM) (Lib.hid DL) (Lib.hid IF) (Lib.hid PL) (Lib.hid D1) (Lib.hid AT) (Lib.hid LI)⟩
  · rw [Bool.eq_false_iff.2 ho, if_neg (by decide)] at LI NU ⊢
    exact ⟨fun w hT => sMvL_rg _ _ _ _ _ _ _ _ _ _ _ _ _ _ _ _ _ _ _ w hT HS (Lib.hid fun w hT => HL ▸ sLL_any _ x y z w hT) (Lib.hid fun w hT => sMOf_any _ _ _ _ _ _ _ _ w hT) (Lib.hid fun w hT => sLineOf_any _ _ _ _ w hT) (Lib.hid S4) (Lib.hid fun w _ => NU w),
      fun w hT => iMvL_ok _ _ _ _ _ _ _ _ _ _ _ _ _ _ _ _ _ _ _ _ _ _ _ _ _ _ _ _ _ _ _ _ _ _ _ _ _ _ _ _ _ _ _ _ _ _ _ _ _ _ _ _ w hT v0 HM (Lib.hid fun w hT => HL ▸ iVL_any hl3 w hT) (Lib.hid IM) (Lib.hid DL) (Lib.hid IF) (Lib.hid PL) (Lib.hid D1) (Lib.hid AT) (Lib.hid LI)⟩

/-- The model's side of a point, and direction. -/
theorem sso_val {n : Nat} (hn : n < 8) {x y z : Int} (hx : validB x y z = true) {p : P4} (op : pOk p = true) (w : World) (hT : LT true w) :
    Calls Tryd.prog 19 #[lnv n x y z, gp p] w (RetB (.int .i64 (sideV n (up16 x z.toNat) (up16 y z.toNat) p)) w) := by
  have HL : vL n x y z = true := by unfold vL; rw [hx, Bool.and_true]; simp [inB]; omega
  have hv := ok_vP op
  obtain ⟨hA, mA⟩ := valid_bd hx
  obtain ⟨hb, hm⟩ := ok_bd op
  have S := fun w (hT : LT true w) => sside_g hn hA mA hb hm w hT
  rw [← valid_gl hx] at S
  exact sSO_ok _ _ _ _ _ _ _ _ _ _ _ _ _ _ _ _ _ _ _ _ _ w hT (Lib.hid fun w hT => HL ▸ sLL_any _ x y z w hT) (Lib.hid fun w hT => hv ▸ sLP_any _ _ _ _ _ _ w hT) (Lib.hid fun w hT => sLineOf_any _ _ _ _ w hT) (Lib.hid fun w hT => sOf_any _ _ _ _ _ _ w hT) (Lib.hid S)
theorem sdo_val {p q : P4} (op : pOk p = true) (oq : pOk q = true) (w : World) (hT : LT true w) :
    Calls Tryd.prog 21 #[gp p, gp q] w (RetB (.int .i64 (dirOf (q.sub p))) w) := by
  obtain ⟨b1, m1⟩ := ok_bd op
  obtain ⟨b2, m2⟩ := ok_bd oq
  have hx := ok_vP op
  have hy := ok_vP oq
  have hD : Bd 17179869184 (q.sub p) := by unfold Bd P4.sub at *; simp only; omega
  have hM : M64 (q.sub p) := by unfold M64 P4.sub at *; simp only; omega
  have SM := fun w (hT : LT true w) => sMinus_g (bd_mono b2 (by decide)) (bd_mono b1 (by decide)) w hT
  have SD := fun w (hT : LT true w) => sDir_g hD hM w hT
  exact sDO_ok _ _ _ _ _ _ _ _ _ _ _ _ _ _ _ _ _ _ _ _ _ _ _ _ _ _ _ _ _ _ _ w hT (Lib.hid fun w hT => hx ▸ sLP_any _ _ _ _ _ _ w hT) (Lib.hid fun w hT => hy ▸ sLP_any _ _ _ _ _ _ w hT) (Lib.hid fun w hT => sOf_any _ _ _ _ _ _ w hT) (Lib.hid fun w hT => sOf_any _ _ _ _ _ _ w hT) (Lib.hid SM) (Lib.hid SD)
theorem gOk_valid {A B : Int} (h : gOk A B = true) : validB (gA A B) (gB A B) (gK A B) = true := (valid_low A B 16).trans h
theorem up_gg (A B : Int) : up16 (gA A B) ((gK A B : Nat) : Int).toNat = A ∧ up16 (gB A B) ((gK A B : Nat) : Int).toNat = B := by
  rw [Int.toNat_natCast]; exact up_g A B
theorem lineV_ex (d U V : Int) : ∃ (zd za zb zk : Int) (v : Bool), lineV d U V = .tuple #[lnv zd za zb zk, .bool v] ∧ (v = true → gOk U V = true ∧ zd = d ∧ za = gA U V ∧ zb = gB U V ∧ zk = gK U V) := by
  unfold lineV
  by_cases h : gOk U V = true
  · rw [h, if_pos rfl]
    exact ⟨_, _, _, _, _, rfl, fun _ => ⟨rfl, rfl, rfl, rfl, rfl⟩⟩
  · rw [Bool.eq_false_iff.2 h, if_neg (by decide)]
    exact ⟨_, _, _, _, _, rfl, fun h => by cases h⟩

theorem ml_bundle {t e : Int} {f : Bool} {ma mb mk mc md ml x y z a b k c d l a' b' k' c' d' l' : Int} (hM : vM t ma mb mk mc md ml = true) (hL : vL e x y z = true) (hP : vP a b k c d l = true) (hQ : vP a' b' k' c' d' l' = true) :
    ∃ (zd za zb zk : Int) (v1 : Bool) (q1 q2 q3 q4 q5 q6 : Int) (v2 : Bool) (r1 r2 r3 r4 r5 r6 : Int) (v3 : Bool) (sd vd dd : Int),
      (∀ w, LT true w → Calls Tryd.prog 16 #[mot t f ma mb mk mc md ml, lnv e x y z] w (RetB (.tuple #[lnv zd za zb zk, .bool v1]) w)) ∧
      (∀ w, LT true w → Calls Tryd.prog 18 #[mot t f ma mb mk mc md ml, lnv e x y z] w (RetB (.tuple #[lnv zd za zb zk, .bool v1]) w)) ∧
      (∀ w, LT true w → Calls Tryd.prog 17 #[mot t f ma mb mk mc md ml, pt a b k c d l] w (RetB (.tuple #[pt q1 q2 q3 q4 q5 q6, .bool v2]) w)) ∧
      (∀ w, LT true w → Calls Tryd.prog 17 #[mot t f ma mb mk mc md ml, pt a' b' k' c' d' l'] w (RetB (.tuple #[pt r1 r2 r3 r4 r5 r6, .bool v3]) w)) ∧
      (∀ w, LT true w → Calls Tryd.prog 19 #[lnv e x y z, pt a b k c d l] w (RetB (.int .i64 sd) w)) ∧
      (∀ w, LT true w → Calls Tryd.prog 20 #[mot t f ma mb mk mc md ml, .int .i64 e] w (RetB (.int .i64 vd) w)) ∧
      (∀ w, LT true w → Calls Tryd.prog 21 #[pt a b k c d l, pt a' b' k' c' d' l'] w (RetB (.int .i64 dd) w)) ∧
      ((-1 ≤ sd ∧ sd ≤ 1) ∧ (0 ≤ vd ∧ vd ≤ 15) ∧ (-1 ≤ dd ∧ dd ≤ 15)) ∧
      (v1 = true → v2 = true → ∀ sg : Int, sg = sd * (if f then -1 else 1) * (if 8 ≤ vd then -1 else 1) → ∀ w, LT true w → Calls Tryd.prog 19 #[lnv zd za zb zk, pt q1 q2 q3 q4 q5 q6] w (RetB (.int .i64 sg) w)) ∧
      (0 ≤ dd → v2 = true → v3 = true → ∃ ee : Int, (∀ w, LT true w → Calls Tryd.prog 21 #[pt q1 q2 q3 q4 q5 q6, pt r1 r2 r3 r4 r5 r6] w (RetB (.int .i64 ee) w)) ∧
        (∀ w, LT true w → Calls Tryd.prog 20 #[mot t f ma mb mk mc md ml, .int .i64 dd] w (RetB (.int .i64 ee) w))) := by
  have ht := vM_in hM
  have hvm : vP ma mb mk mc md ml = true := by unfold vM at hM; rw [Bool.and_eq_true] at hM; exact hM.2
  obtain ⟨i, rfl⟩ : ∃ n : Nat, t = n := ⟨t.toNat, by omega⟩
  have hi : i < 8 := by omega
  obtain ⟨n, rfl, hn, hx⟩ := vL_split hL
  rw [mot_g hvm, valid_gp hP, valid_gp hQ]
  have os := vP_ok hvm
  have op := vP_ok hP
  have oq := vP_ok hQ
  generalize gP ma mb mk mc md ml = s at *
  generalize gP a b k c d l = p at *
  generalize gP a' b' k' c' d' l' = o at *
  obtain ⟨_, ms⟩ := ok_bd os
  obtain ⟨_, mp⟩ := ok_bd op
  obtain ⟨_, mo⟩ := ok_bd oq
  obtain ⟨hA, m1, m2⟩ := valid_bd hx
  obtain ⟨T1, T2, hq, h1, h2⟩ := quot_ex (A := up16 x z.toNat) (B := up16 y z.toNat) 8 (sq_unit (n + 4) (by omega)) (by omega) (by omega)
  obtain ⟨SL, IL⟩ := mvl_val hi hn f os hx hq h1 h2
  have M1 := fun w (hT : LT true w) => mv_val hi f os op w hT
  have M2 := fun w (hT : LT true w) => mv_val hi f os oq w hT
  have SS := fun w (hT : LT true w) => sso_val hn hx op w hT
  have MD := fun e w (hT : LT true w) => iMD_any (β := true) (i : Int) f (ok_i6 os) e w hT
  have hvM := ok_vM hi os
  have MD' : ∀ e : Nat, e < 16 → ∀ w, LT true w → Calls Tryd.prog 20 #[motG i f s, .int .i64 (e : Int)] w (RetB (.int .i64 (vN i f e : Int)) w) := by
    intro e he w hT
    have h := MD (e : Int) w hT
    unfold mdV at h
    rw [hvM, show inB (e : Int) 0 15 = true by simp [inB]; omega, Bool.true_and, if_pos rfl, vN_dir i f he] at h
    exact h
  have DO := fun w (hT : LT true w) => sdo_val op oq w hT
  obtain ⟨zd, za, zb, zk, v1, e1, k1⟩ := lineV_ex (vN i f n % 8 : Nat) (dotA (vN i f n % 8 + 4) (mf i n f s T1 T2)) (dotB (vN i f n % 8 + 4) (mf i n f s T1 T2))
  obtain ⟨q1, q2, q3, q4, q5, q6, v2, e2, k2⟩ := pointV_ex (mP i (upI i f) s p)
  obtain ⟨r1, r2, r3, r4, r5, r6, v3, e3, k3⟩ := pointV_ex (mP i (upI i f) s o)
  rw [e1] at SL IL
  rw [e2] at M1
  rw [e3] at M2
  have hvl := vN_lt i f n
  refine ⟨zd, za, zb, zk, v1, q1, q2, q3, q4, q5, q6, v2, r1, r2, r3, r4, r5, r6, v3, _, _, _, IL, SL, M1, M2, SS, MD' n (by omega), DO, ⟨?_, ?_, ?_⟩, fun g1 g2 sg hsg w hT => ?_, fun g0 g2 g3 => ?_⟩
  · have := sgn2_range (dotA (n + 4) p - up16 x z.toNat) (dotB (n + 4) p - up16 y z.toNat)
    unfold sideV; omega
  · omega
  · have := dirOf_range (o.sub p); omega
  · obtain ⟨og, rfl, rfl, rfl, rfl⟩ := k1 g1
    obtain ⟨oR, eR⟩ := k2 g2
    rw [eR]
    have h := sso_val (n := vN i f n % 8) (by omega) (gOk_valid og) oR w hT
    rw [(up_gg _ _).1, (up_gg _ _).2] at h
    have hs := side_move hi hn f s (m4_64 mp) (m4_foot hn h1 h2)
    obtain ⟨d1, d2⟩ := dot_foot hn hq
    rw [d1, d2] at hs
    unfold sideV at h
    unfold mf at h
    rw [hs] at h
    have ev : vsg (vN i f n) = (if 8 ≤ ((vN i f n : Nat) : Int) then -1 else 1) := by
      unfold vsg
      by_cases h8 : 8 ≤ vN i f n
      · rw [if_pos h8, if_pos (by omega)]
      · rw [if_neg h8, if_neg (by omega)]
    rw [ev] at h; unfold sideV at hsg; unfold fsg at h; rw [hsg]
    exact h
  · obtain ⟨oR, eR⟩ := k2 g2
    obtain ⟨oS, eS⟩ := k3 g3
    rw [eR, eS]
    have hr := dirOf_range (o.sub p)
    obtain ⟨dn, hdn⟩ : ∃ dn : Nat, dirOf (o.sub p) = dn := ⟨(dirOf (o.sub p)).toNat, by omega⟩
    rw [hdn] at hr ⊢
    refine ⟨(vN i f dn : Int), fun w hT => ?_, fun w hT => MD' dn (by omega) w hT⟩
    have h := sdo_val oR oS w hT
    rw [dir_move hi f s (m4_64 mp) (m4_64 mo) hdn (by omega)] at h
    exact h
end Act
end Go.Proofs.YtafbdnjabgfjeaaDoor
