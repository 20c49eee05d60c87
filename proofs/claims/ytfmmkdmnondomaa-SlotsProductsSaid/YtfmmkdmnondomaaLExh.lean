import Derived.Test.YtfmmkdmnondomaaLExd
/- The search for the other primes of the table. -/
namespace Ob
set_option maxRecDepth 1000000 in
theorem topL_115 : topL 13 115 = true := by decide +kernel
set_option maxRecDepth 1000000 in
theorem topL_128 : topL 9 128 = true := by decide +kernel
set_option maxRecDepth 1000000 in
theorem topL_137 : topL 5 137 = true := by decide +kernel
set_option maxRecDepth 1000000 in
theorem topL_142 : topL 4 142 = true := by decide +kernel
set_option maxRecDepth 1000000 in
theorem topL_146 : topL 4 146 = true := by decide +kernel
set_option maxRecDepth 1000000 in
theorem topL_150 : topL 5 150 = true := by decide +kernel
set_option maxRecDepth 1000000 in
theorem topL_155 : topL 14 155 = true := by decide +kernel
end Ob
